/-
  What is proved: for every number and either letter the law NamesLong answers true: a name has 1 to 8 runes, counted in runes and not in bytes, and of more the first 8 are left (numbers from 0 to 20; others the law lets by). Conditions: none.
-/
import Derived.Test.YtknmdpdlcmdaeaaAlive
import Derived.Test.YtknmdpdlcmdaeaaBack
import Derived.Test.YtknmdpdlcmdaeaaRows
import Derived.WalkKit
import Derived.ProofKit
import Derived.OpenShut
import Derived.ShutString
namespace Go.Proofs.Ytknmdpdlcmdaeaa.namesLong
open Go.ChangeShapes Go.WideShapes Go.ChangeAt Go.RowKit
open Go.ChangeMaps (open_string shut_string)
set_option linter.unusedVariables false      -- a walk need not use every 'w<i>' (that an integer argument fits its kind)

theorem own : ownKnob Try.prog.godebug = none := by kernel_rfl

def repS (c : Int) (k : Nat) : ByteArray := runesBytes (List.replicate k c)
theorem repS_succ (c : Int) (k : Nat) : repS c k ++ Utf8.encode c = repS c (k + 1) := by
  unfold repS runesBytes
  rw [List.replicate_succ', List.foldl_append]
  rfl
theorem repS_size (c : Int) (k : Nat) : (repS c k).size ≤ 4 * k := by
  have := runesBytes_size_le (List.replicate k c)
  rw [List.length_replicate] at this
  exact this
theorem enc_z : Utf8.encode 122 = ⟨#[122]⟩ := by kernel_rfl
theorem enc_o : Utf8.encode 969 = ⟨#[207, 137]⟩ := by kernel_rfl

theorem all_rep {c : Int} (h : goodB c = true) (k : Nat) : all (repS c k) = List.replicate k c :=
  all_bytes _ (fun r hr => by rw [(List.mem_replicate.1 hr).2]; exact (good_ok h).1)
theorem valid_rep {c : Int} (h : goodB c = true) (k : Nat) : validL (all (repS c k)) = (decide (1 ≤ k) && decide (k ≤ 8)) := by
  rw [all_rep h]
  unfold validL
  have : (List.replicate k c).all goodB = true := by
    rw [List.all_eq_true]
    intro r hr
    rw [(List.mem_replicate.1 hr).2]
    exact h
  rw [this, List.length_replicate, Bool.and_true]
theorem count_rep {c : Int} (h : goodB c = true) (k : Nat) : (all (repS c k)).length = k := by rw [all_rep h, List.length_replicate]
theorem clean_rep {c : Int} (h : goodB c = true) (k : Nat) : (all (cleanS (repS c k))).length = min k 8 := by
  rw [all_clean, all_rep h]
  unfold cleanL
  rw [keep_good _ (fun r hr => by rw [(List.mem_replicate.1 hr).2]; exact h), List.length_take, List.length_replicate]
  omega
theorem clean_size (s : ByteArray) : (cleanS s).size ≤ 32 := by
  have h1 := runesBytes_size_le (cleanL (all s))
  have h2 := clean_len (all s)
  unfold cleanS
  omega

set_option maxHeartbeats 1600000 in
set_option maxRecDepth 100000 in
theorem walk_mid (n : Nat) (g : Bool) (w : World) (hn : n ≤ 20) :
    Calls Try.prog 7 #[.int .i64 (n : Int), .bool g] w fun e w' => e = .returned (.bool true) ∧ Below w.heap.size w w' := by
  obtain ⟨c, cb, hc, henc, hgc⟩ : ∃ (c : Int) (cb : ByteArray), goodB c = true ∧ Utf8.encode c = cb ∧ ((g = true ∧ cb = ⟨#[207, 137]⟩) ∨ (g = false ∧ cb = ⟨#[122]⟩)) := by
    cases g
    · exact ⟨122, _, by decide, enc_z, .inr ⟨rfl, rfl⟩⟩
    · exact ⟨969, _, by decide, enc_o, .inl ⟨rfl, rfl⟩⟩
  have hadd : ∀ k w, k ≤ 20 → (Op.stringOp .add (repS c k) cb).run Try.prog w = .ok (.string (repS c (k + 1))) w := by
    intro k w hk
    have h1 := repS_size c k
    have h2 := encode_size_le c
    rw [henc] at h2
    rw [run_string_add_sum w _ _ (by omega), ← henc, repS_succ]
  clear henc
  have V := fun w => valid_any (repS c n) w
  have N := fun w => count_any (repS c n) w (by have := repS_size c n; unfold maxLen; omega)
  have C := fun w => clean_any (repS c n) w
  have N2 := fun w => count_any (cleanS (repS c n)) w (by have := clean_size (repS c n); unfold maxLen; omega)
  rw [valid_rep hc] at V
  rw [count_rep hc] at N
  rw [clean_rep hc] at N2
  generalize cleanS (repS c n) = cl at C N2
  have D1 := Lib.hid V
  have D2 := Lib.hid N
  have D3 := Lib.hid C
  have D4 := Lib.hid N2
  have HCS : Hid ((n = 0 ∧ (decide (1 ≤ n) && decide (n ≤ 8)) = false ∧ min n 8 = 0) ∨ ((1 ≤ n ∧ n ≤ 8) ∧ (decide (1 ≤ n) && decide (n ≤ 8)) = true ∧ min n 8 = n) ∨ (8 < n ∧ (decide (1 ≤ n) && decide (n ≤ 8)) = false ∧ min n 8 = 8)) := by
    show _ ∨ _ ∨ _
    simp only [Bool.and_eq_true, Bool.and_eq_false_iff, decide_eq_true_eq, decide_eq_false_iff_not]
    omega
  have HA := Lib.hid hadd
  clear V N C N2 hadd hc
  rcases hgc with ⟨rfl, rfl⟩ | ⟨rfl, rfl⟩
  all_goals
    go_enter Try.func7, Try.ntmps7
    go_wp2_with (go_at_call 8; refine (alive_any _).mono ?_; rintro e w1 ⟨rfl, H1⟩)
    go_loop [6, 7] (fun r i => ∃ k : Nat, k ≤ n ∧ i = .int .i64 (k : Int) ∧ r = .string (repS c k)) (fun _ i => n - (intOf i).toNat)
    case atStart => exact ⟨0, Nat.zero_le _, rfl, rfl⟩
    case round =>
      obtain ⟨k, hk, rfl, rfl⟩ := hrel
      by_cases hlt : k < n
      · have hadd := HA.out k w1 (by omega)
        go_wp2
        go_round
        case rel => exact ⟨k + 1, by omega, by go_num, rfl⟩
        case measure => simp [intOf]; omega
      · obtain rfl : k = n := by omega
        clear hlt hk
        rcases HCS.out with ⟨rfl, e1, e2⟩ | ⟨⟨h1, h8⟩, e1, e2⟩ | ⟨h8, e1, e2⟩
        · rw [e1] at D1
          rw [e2] at D4
          clear e1 e2 HCS HA
          go_wp2_with (first
            | (go_at_call 11; (with_reducible refine (D1.out _).mono ?_); rintro e w2 ⟨rfl, H2⟩)
            | (go_at_call 9; (with_reducible refine (D2.out _).mono ?_); rintro e w3 ⟨rfl, H3⟩)
            | (go_at_call 13; (with_reducible refine (D3.out _).mono ?_); rintro e w4 ⟨rfl, H4⟩)
            | (go_at_call 9; (with_reducible refine (D4.out _).mono ?_); rintro e w5 ⟨rfl, H5⟩))
          go_ret
          exact ⟨rfl, below_next (below_next (below_next (below_next H1 H2) H3) H4) H5⟩
        · rw [e1] at D1
          rw [e2] at D4
          clear e1 e2 HCS HA
          have i1 : decide ((1 : Int) ≤ (k : Int)) = true := by simp; omega
          have i2 : decide ((k : Int) ≤ 8) = true := by simp; omega
          go_wp2_with (first
            | (go_at_call 11; (with_reducible refine (D1.out _).mono ?_); rintro e w2 ⟨rfl, H2⟩)
            | (go_at_call 9; (with_reducible refine (D2.out _).mono ?_); rintro e w3 ⟨rfl, H3⟩)
            | (go_at_call 13; (with_reducible refine (D3.out _).mono ?_); rintro e w4 ⟨rfl, H4⟩)
            | (go_at_call 9; (with_reducible refine (D4.out _).mono ?_); rintro e w5 ⟨rfl, H5⟩))
          go_ret
          exact ⟨rfl, below_next (below_next (below_next (below_next H1 H2) H3) H4) H5⟩
        · rw [e1] at D1
          rw [e2] at D4
          clear e1 e2 HCS HA
          have i1 : decide ((1 : Int) ≤ (k : Int)) = true := by simp; omega
          have i2 : decide ((k : Int) ≤ 8) = false := by simp; omega
          go_wp2_with (first
            | (go_at_call 11; (with_reducible refine (D1.out _).mono ?_); rintro e w2 ⟨rfl, H2⟩)
            | (go_at_call 9; (with_reducible refine (D2.out _).mono ?_); rintro e w3 ⟨rfl, H3⟩)
            | (go_at_call 13; (with_reducible refine (D3.out _).mono ?_); rintro e w4 ⟨rfl, H4⟩)
            | (go_at_call 9; (with_reducible refine (D4.out _).mono ?_); rintro e w5 ⟨rfl, H5⟩))
          go_ret
          exact ⟨rfl, below_next (below_next (below_next (below_next H1 H2) H3) H4) H5⟩

set_option maxRecDepth 100000 in
theorem walk (a0 : Int) (a1 : Bool) (w : World) :
    Calls Try.prog 7 #[.int .i64 a0, .bool a1] w fun e w' => e = .returned (.bool true) ∧ Below w.heap.size w w' := by
  by_cases h : 0 ≤ a0 ∧ a0 ≤ 20
  · obtain ⟨n, rfl⟩ : ∃ n : Nat, a0 = (n : Int) := ⟨a0.toNat, by omega⟩
    exact walk_mid n a1 w (by omega)
  · have h' : a0 < 0 ∨ 20 < a0 := by omega
    rcases h' with h' | h'
    all_goals
      clear h
      go_enter Try.func7, Try.ntmps7
      go_wp2_with (go_at_call 8; refine (alive_any _).mono ?_; rintro e w1 ⟨rfl, H1⟩)
      go_ret
      exact ⟨rfl, H1⟩

/-! ### THE ROW's STEP: WRITTEN OUT: LEAVE IT -/
set_option maxRecDepth 100000 in
theorem lifted (os : Os) (started : os.Started) (H : Type) (enc : TypeId × Value → H) :
    ReturnsInHanded {} Try.checked os 7 .any (Rows.namesLongSpec.pre6 enc Try.prog Try.f7 Rows.namesLongRow.domain false) (Rows.namesLongSpec.post enc Try.prog Try.f7 false true false false) := by
  refine returnsInHanded_of_change (C := Try.checked) own started (by kernel_rfl) Try.func7
    (ChangeSpec.witness6 (enc := enc) (C := Try.checked) false ⟨#[], #[.int .i64 0, .bool false], []⟩ 8 (by kernel_rfl) (by kernel_rfl) (by kernel_rfl) (by kernel_rfl)) ?_
  intro W base args ds gs before hval0 hW hcnd _
  have hval : ∀ (j : Nat) t v, Try.f7.params[j]? = some t → args[j]? = some v → Value.okWide Try.prog W .any base t v := hval0
  have hW' := hW
  obtain ⟨p, q, hA0, hV, rfl, hfz, hnd⟩ := hW
  have hA : DataW.TrodAll enc Try.prog W 0 (fun _ => true) true Try.f7.params.toList args.toList ds p := hA0
  rw [Try.params7] at hA hval
  obtain ⟨v0, vs0, d0, ds0, p0, q0, hargs, rfl, rfl, h0, r0⟩ := trodAll_cons hA
  obtain ⟨v1, vs1, d1, ds1, p1, q1, rfl, rfl, rfl, h1, r1⟩ := trodAll_cons r0
  obtain ⟨rfl, rfl, rfl⟩ := trodAll_nil r1
  obtain rfl : args = #[v0, v1] := by cases args; simp_all
  obtain ⟨rfl, rfl⟩ := trodVars_none hV
  obtain ⟨a0, rfl, rfl, rfl, w0⟩ := open_int Try.underlying3 (hval 0 3 v0 rfl rfl) h0
  obtain ⟨a1, rfl, rfl, rfl⟩ := open_bool Try.underlying4 (hval 1 4 v1 rfl rfl) h1
  clear hA0 hval0
  simp only [List.append_nil] at hW'
  refine (walk a0 a1 W).mono fun e W' ⟨he, hg⟩ => ?_
  subst he
  exact ⟨_, rfl, ⟨_, _, _, [], [], [], hW', trodAll_cons_mk (shut_bool Try.underlying4 _) trodAll_mk0, trodAll_cons_mk (shut_int Try.underlying3 w0) (trodAll_cons_mk (shut_bool Try.underlying4 _) trodAll_mk0), rfl, hg.frame _, fun h => by cases h⟩⟩

theorem over : Rows.namesLongRow.holds Try.pinned (OpenSpec.ofChange Rows.namesLongSpec) :=
  OpenClaim.holds_of_wide 7 Try.f7 rfl rfl rfl rfl rfl rfl rfl ⟨rfl, rfl, rfl, rfl, rfl⟩ rfl rfl rfl rfl rfl (by kernel_rfl) Try.func7 (by kernel_rfl)
    (of_decide_eq_true (by kernel_rfl)) (by unfold Func.isWrapper; first | (rw [if_pos (by decide +kernel)]; kernel_rfl) | (rw [if_neg (by decide +kernel)]; exact ⟨rfl, rfl⟩))
    (fun os started H enc _ => lifted os started H enc)

/-- ████ THE STATEMENT ████ -/
theorem proved : Rows.NamesLongSaid :=
  over
end Go.Proofs.Ytknmdpdlcmdaeaa.namesLong
namespace Go.Proofs.Ytknmdpdlcmdaeaa
theorem NamesLong_holds : Rows.NamesLongSaid := namesLong.proved
#print axioms NamesLong_holds
end Go.Proofs.Ytknmdpdlcmdaeaa
