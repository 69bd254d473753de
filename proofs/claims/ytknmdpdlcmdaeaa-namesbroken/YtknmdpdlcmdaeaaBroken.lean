/-
  What is proved: for every byte and every number the law NamesBroken answers true: a byte that belongs to no rune is one rune, and is in no name (bytes from 128 on, up to 20 of them; others the law lets by). Conditions: none.
-/
import Derived.Test.YtknmdpdlcmdaeaaAlive
import Derived.Test.YtknmdpdlcmdaeaaBack
import Derived.Laws.IdiomStrings
import Derived.Test.YtknmdpdlcmdaeaaRows
import Derived.WalkKit
import Derived.ProofKit
import Derived.OpenShut
import Derived.ShutString
namespace Go.Proofs.Ytknmdpdlcmdaeaa.namesBroken
open Go.ChangeShapes Go.WideShapes Go.ChangeAt Go.RowKit
open Go.ChangeMaps (open_string shut_string)
set_option linter.unusedVariables false      -- a walk need not use every 'w<i>' (that an integer argument fits its kind)

theorem own : ownKnob Try.prog.godebug = none := by kernel_rfl

open Go.Lib (decodeL decodeL_N decodeN_alone decodeN_cont decodeN_ascii)

def brk (b : UInt8) (k : Nat) : ByteArray := ⟨(97 :: List.replicate k b).toArray⟩
theorem brk_succ (b : UInt8) (k : Nat) : brk b k ++ ⟨#[b]⟩ = brk b (k + 1) := by
  unfold brk
  apply ByteArray.ext
  rw [ByteArray.data_append, List.replicate_succ']
  simp
theorem brk_list (b : UInt8) (k : Nat) : (brk b k).data.toList = 97 :: List.replicate k b := by simp [brk]
theorem brk_size (b : UInt8) (k : Nat) : (brk b k).size = k + 1 := by
  rw [← size_list, brk_list]
  simp
theorem decode_b {b : UInt8} (hb : 128 ≤ b.toNat) (k : Nat) : decodeL (List.replicate (k + 1) b) = (65533, 1) := by
  rw [decodeL_N]
  have h0 : (List.replicate (k + 1) b).getD 0 0 = b := by simp [List.replicate_succ]
  rw [h0]
  by_cases hc : b.toNat / 64 = 2
  · exact decodeN_cont _ _ _ _ _ hc
  · refine decodeN_alone _ _ _ _ _ hb ?_
    cases k with
    | zero => left; simp
    | succ k =>
      right
      have h1 : (List.replicate (k + 1 + 1) b).getD 1 0 = b := by simp [List.replicate_succ]
      rw [h1]
      exact hc
theorem rs_b {b : UInt8} (hb : 128 ≤ b.toNat) : ∀ k, rs (List.replicate k b) = List.replicate k 65533
  | 0 => rfl
  | k + 1 => by
    rw [rs_step _ (by simp [List.replicate_succ]), decode_b hb k, List.replicate_succ, List.replicate_succ]
    show _ :: rs (List.replicate k b) = _
    rw [rs_b hb k]
    rfl
theorem all_brk {b : UInt8} (hb : 128 ≤ b.toNat) (k : Nat) : all (brk b k) = 97 :: List.replicate k 65533 := by
  unfold all
  rw [brk_list, rs_step _ (by simp), decodeL_N]
  have h0 : ((97 :: List.replicate k b : List UInt8).getD 0 0).toNat = 97 := by simp
  rw [h0, decodeN_ascii _ _ _ _ _ (by omega)]
  show _ :: rs (List.replicate k b) = _
  rw [rs_b hb k]
  rfl
theorem count_brk {b : UInt8} (hb : 128 ≤ b.toNat) (k : Nat) : (all (brk b k)).length = k + 1 := by rw [all_brk hb]; simp
theorem valid_brk {b : UInt8} (hb : 128 ≤ b.toNat) (k : Nat) : validL (all (brk b k)) = decide (k = 0) := by
  rw [all_brk hb]
  cases k with
  | zero => rfl
  | succ k =>
    have h : goodB 65533 = false := by decide
    simp [validL, List.replicate_succ, h]
theorem keep_bad : ∀ k, keep (List.replicate k 65533) = []
  | 0 => rfl
  | k + 1 => by
    have ih := keep_bad k
    unfold keep at *
    rw [List.replicate_succ, List.map_cons, List.filter_cons, ih]
    rfl
theorem enc_a : runesBytes [97] = ⟨#[97]⟩ := by kernel_rfl
theorem clean_brk {b : UInt8} (hb : 128 ≤ b.toNat) (k : Nat) : cleanS (brk b k) = ⟨#[97]⟩ := by
  have h : cleanL (all (brk b k)) = [97] := by
    rw [all_brk hb]
    have ih := keep_bad k
    unfold keep at ih
    unfold cleanL keep
    rw [List.map_cons, List.filter_cons, ih]
    rfl
  unfold cleanS
  rw [h]
  exact enc_a

set_option maxHeartbeats 1600000 in
set_option maxRecDepth 100000 in
theorem walk_mid (b : UInt8) (n : Nat) (w : World) (hb : 128 ≤ b.toNat) (hn : n ≤ 20) :
    Calls Try.prog 6 #[.int .u8 (b.toNat : Int), .int .i64 (n : Int)] w fun e w' => e = .returned (.bool true) ∧ Below w.heap.size w w' := by
  have hadd : ∀ k w, k ≤ 20 → (Op.stringOp .add (brk b k) ⟨#[b]⟩).run Try.prog w = .ok (.string (brk b (k + 1))) w := by
    intro k w hk
    rw [run_string_add_sum w _ _ (by rw [brk_size]; show _ + 1 ≤ _; omega), brk_succ]
  have hcv : ∀ w : World, (convert 28 9 (.slice (some ⟨w.heap.size, 0, none⟩) 1 1)).run Try.prog (w.alloc (.cells #[.int .u8 (b.toNat : Int)] 5)) = .ok (.string ⟨#[b]⟩) (w.alloc (.cells #[.int .u8 (b.toNat : Int)] 5)) := by
    intro w
    refine run_convert_bytes_back (w.alloc (.cells #[.int .u8 (b.toNat : Int)] 5)) 28 9 5 ⟨w.heap.size, 0, none⟩ 1 [b] Try.underlying28 Try.underlying5 Try.underlying9 ?_
    intro j hj
    match j, hj with
    | 0, hj => simp [Addr.add]
  have V := fun w => valid_any (brk b n) w
  have N := fun w => count_any (brk b n) w (by rw [brk_size]; unfold maxLen; omega)
  have C := fun w => clean_any (brk b n) w
  rw [valid_brk hb] at V
  rw [count_brk hb] at N
  rw [clean_brk hb] at C
  have D1 := Lib.hid V
  have D2 := Lib.hid N
  have D3 := Lib.hid C
  have HA := Lib.hid hadd
  have HX := Lib.hid hcv
  clear V N C hadd hcv
  have hb' : (128 : Int) ≤ (b.toNat : Int) := by omega
  have hb2 : (b.toNat : Int) ≤ 255 := by have := b.toNat_lt; omega
  go_enter Try.func6, Try.ntmps6
  go_wp2_with (go_at_call 8; refine (alive_any _).mono ?_; rintro e w1 ⟨rfl, H1⟩)
  go_loopw [6, 7] (fun r i wr => ∃ k : Nat, k ≤ n ∧ i = .int .i64 (k : Int) ∧ r = .string (brk b k) ∧ Below w1.heap.size w1 wr) (fun _ i _ => n - (intOf i).toNat)
  case atStart => exact ⟨0, Nat.zero_le _, rfl, rfl, Below.refl _ _⟩
  case round =>
    obtain ⟨k, hk, rfl, rfl, HB⟩ := hrel
    by_cases hlt : k < n
    · have hadd := HA.out k (wr.alloc (.cells #[.int .u8 (b.toNat : Int)] 5)) (by omega)
      have hcv := HX.out wr
      go_wp2
      go_roundw
      case rel => exact ⟨k + 1, by omega, by go_num, rfl, HB.alloc HB.size _⟩
      case measure => simp [intOf]; omega
    · obtain rfl : k = n := by omega
      clear hlt hk HA HX
      by_cases h0 : k = 0
      · subst h0
        go_wp2_with (first
          | (go_at_call 9; (with_reducible refine (D2.out _).mono ?_); rintro e w3 ⟨rfl, H3⟩)
          | (go_at_call 11; (with_reducible refine (D1.out _).mono ?_); rintro e w2 ⟨rfl, H2⟩)
          | (go_at_call 13; (with_reducible refine (D3.out _).mono ?_); rintro e w4 ⟨rfl, H4⟩))
        go_ret
        exact ⟨rfl, below_next (below_next (below_next (below_next H1 HB) H3) H2) H4⟩
      · have e0 : decide (k = 0) = false := by simpa using h0
        rw [e0] at D1
        have i1 : ((k : Int) == 0) = false := by simpa using h0
        clear e0 h0
        go_wp2_with (first
          | (go_at_call 9; (with_reducible refine (D2.out _).mono ?_); rintro e w3 ⟨rfl, H3⟩)
          | (go_at_call 11; (with_reducible refine (D1.out _).mono ?_); rintro e w2 ⟨rfl, H2⟩)
          | (go_at_call 13; (with_reducible refine (D3.out _).mono ?_); rintro e w4 ⟨rfl, H4⟩))
        go_ret
        exact ⟨rfl, below_next (below_next (below_next (below_next H1 HB) H3) H2) H4⟩

set_option maxRecDepth 100000 in
theorem walk (a0 a1 : Int) (w0 : (Lit.int .u8 a0).wf = true) (w : World) :
    Calls Try.prog 6 #[.int .u8 a0, .int .i64 a1] w fun e w' => e = .returned (.bool true) ∧ Below w.heap.size w w' := by
  have hb := bounds_u8 w0
  by_cases h : 128 ≤ a0 ∧ 0 ≤ a1 ∧ a1 ≤ 20
  · obtain ⟨n, rfl⟩ : ∃ n : Nat, a1 = (n : Int) := ⟨a1.toNat, by omega⟩
    obtain ⟨b, rfl⟩ : ∃ b : UInt8, a0 = (b.toNat : Int) := ⟨a0.toNat.toUInt8, by rw [u8_toNat a0 (by omega) (by omega)]; omega⟩
    exact walk_mid b n w (by omega) (by omega)
  · have h' : a0 < 128 ∨ (128 ≤ a0 ∧ a1 < 0) ∨ (128 ≤ a0 ∧ 20 < a1) := by omega
    rcases h' with h' | ⟨h', h2⟩ | ⟨h', h2⟩
    all_goals
      clear h
      go_enter Try.func6, Try.ntmps6
      go_wp2_with (go_at_call 8; refine (alive_any _).mono ?_; rintro e w1 ⟨rfl, H1⟩)
      go_ret
      exact ⟨rfl, H1⟩

/-! ### THE ROW's STEP: WRITTEN OUT: LEAVE IT -/
set_option maxRecDepth 100000 in
theorem lifted (os : Os) (started : os.Started) (H : Type) (enc : TypeId × Value → H) :
    ReturnsInHanded {} Try.checked os 6 .any (Rows.namesBrokenSpec.pre6 enc Try.prog Try.f6 Rows.namesBrokenRow.domain false) (Rows.namesBrokenSpec.post enc Try.prog Try.f6 false true false false) := by
  refine returnsInHanded_of_change (C := Try.checked) own started (by kernel_rfl) Try.func6
    (ChangeSpec.witness6 (enc := enc) (C := Try.checked) false ⟨#[], #[.int .u8 0, .int .i64 0], []⟩ 8 (by kernel_rfl) (by kernel_rfl) (by kernel_rfl) (by kernel_rfl)) ?_
  intro W base args ds gs before hval0 hW hcnd _
  have hval : ∀ (j : Nat) t v, Try.f6.params[j]? = some t → args[j]? = some v → Value.okWide Try.prog W .any base t v := hval0
  have hW' := hW
  obtain ⟨p, q, hA0, hV, rfl, hfz, hnd⟩ := hW
  have hA : DataW.TrodAll enc Try.prog W 0 (fun _ => true) true Try.f6.params.toList args.toList ds p := hA0
  rw [Try.params6] at hA hval
  obtain ⟨v0, vs0, d0, ds0, p0, q0, hargs, rfl, rfl, h0, r0⟩ := trodAll_cons hA
  obtain ⟨v1, vs1, d1, ds1, p1, q1, rfl, rfl, rfl, h1, r1⟩ := trodAll_cons r0
  obtain ⟨rfl, rfl, rfl⟩ := trodAll_nil r1
  obtain rfl : args = #[v0, v1] := by cases args; simp_all
  obtain ⟨rfl, rfl⟩ := trodVars_none hV
  obtain ⟨a0, rfl, rfl, rfl, w0⟩ := open_int Try.underlying5 (hval 0 5 v0 rfl rfl) h0
  obtain ⟨a1, rfl, rfl, rfl, w1⟩ := open_int Try.underlying3 (hval 1 3 v1 rfl rfl) h1
  clear hA0 hval0
  simp only [List.append_nil] at hW'
  refine (walk a0 a1 w0 W).mono fun e W' ⟨he, hg⟩ => ?_
  subst he
  exact ⟨_, rfl, ⟨_, _, _, [], [], [], hW', trodAll_cons_mk (shut_bool Try.underlying4 _) trodAll_mk0, trodAll_cons_mk (shut_int Try.underlying5 w0) (trodAll_cons_mk (shut_int Try.underlying3 w1) trodAll_mk0), rfl, hg.frame _, fun h => by cases h⟩⟩

theorem over : Rows.namesBrokenRow.holds Try.pinned (OpenSpec.ofChange Rows.namesBrokenSpec) :=
  OpenClaim.holds_of_wide 6 Try.f6 rfl rfl rfl rfl rfl rfl rfl ⟨rfl, rfl, rfl, rfl, rfl⟩ rfl rfl rfl rfl rfl (by kernel_rfl) Try.func6 (by kernel_rfl)
    (of_decide_eq_true (by kernel_rfl)) (by unfold Func.isWrapper; first | (rw [if_pos (by decide +kernel)]; kernel_rfl) | (rw [if_neg (by decide +kernel)]; exact ⟨rfl, rfl⟩))
    (fun os started H enc _ => lifted os started H enc)

/-- ████ THE STATEMENT ████ -/
theorem proved : Rows.NamesBrokenSaid :=
  over
end Go.Proofs.Ytknmdpdlcmdaeaa.namesBroken
namespace Go.Proofs.Ytknmdpdlcmdaeaa
theorem NamesBroken_holds : Rows.NamesBrokenSaid := namesBroken.proved
#print axioms NamesBroken_holds
end Go.Proofs.Ytknmdpdlcmdaeaa
