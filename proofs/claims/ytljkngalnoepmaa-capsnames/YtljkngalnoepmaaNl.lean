/-
  The walk of the law CapsNames: two tenants may not have one name, and as many as there are may be; conditions: none.
-/
import Derived.Test.YtljkngalnoepmaaNn
namespace Go.Proofs.Ytljkngalnoepmaa.capsNames
open Go.RowKit
set_option linter.unusedVariables false
set_option linter.unusedSimpArgs false

set_option maxRecDepth 100000 in
set_option maxHeartbeats 4000000 in
theorem main (n a b : Nat) (w : World) (hn : 1 ≤ n) (hn' : n ≤ 10) (ha : a < n) (hb : b < n) :
    Calls Try.prog 6 #[.int .i64 (n : Int), .int .i64 (a : Int), .int .i64 (b : Int)] w fun e w' => e = .returned (.bool true) ∧ Below w.heap.size w w' := by
  have d1 : decide ((n : Int) < 1) = false := decide_eq_false (by omega)
  have d2 : decide (10 < (n : Int)) = false := decide_eq_false (by omega)
  have d3 : decide ((a : Int) < 0) = false := decide_eq_false (by omega)
  have d4 : decide ((n : Int) ≤ (a : Int)) = false := decide_eq_false (by omega)
  have d5 : decide ((b : Int) < 0) = false := decide_eq_false (by omega)
  have d6 : decide ((n : Int) ≤ (b : Int)) = false := decide_eq_false (by omega)
  have d7 : decide (n ≤ a) = false := decide_eq_false (by omega)
  have d8 : decide (n ≤ b) = false := decide_eq_false (by omega)
  go_enter Try.func6, Try.ntmps6
  go_wp2_with (go_at_call 7; (with_reducible refine (alive_any _).mono ?_); rintro e w1 ⟨rfl, H1⟩; have B1 := Lib.hid H1; clear H1)
  go_loopw [8, 9] (fun v i wr => ∃ (k : Nat) (cs : List Cf), Below w.heap.size w wr ∧ i = .int .i64 (k : Int) ∧ k ≤ n ∧ OwnC wr w.heap.size v k cs ∧ Hid (Nms cs nm ∧ cs.length = k)) (fun _ i _ => n - (intOf i).toNat)
  case atStart => exact ⟨0, [], B1.out, rfl, Nat.zero_le _, World.ownsRow_nil _ _ _ _, Lib.hid ⟨nms_nil _, rfl⟩⟩
  case round =>
    obtain ⟨k, cs, hbl, rfl, hk, ho, HN⟩ := hrel
    by_cases h : k < n
    · have HB := Lib.hid hbl
      have HO := Lib.hid ho
      obtain ⟨v', w', hrun, o', b'⟩ := app_one (nm k) hbl ho (by omega)
      have HO' := Lib.hid o'
      have HB' := Lib.hid b'
      have k1 := conv_1 wr 107
      have k2 := conv_2 wr (.cells #[.int .u8 107] 5 (1, 2)) 120
      have HRN := Lib.hid hrun
      have k3 := slice_nm (show k < 10 by omega) wr
      clear hbl ho o' b' hrun
      go_wp2_with (at_builtin; (with_reducible refine wpList_app 22 _ _ rfl _ _ _ _ HRN.out rfl rfl rfl ?_))
      go_roundw
      case rel => exact ⟨k + 1, _, HB'.out, by go_num, by omega, HO'.out, Lib.hid ⟨nms_snoc HN.out.1 HN.out.2 _ _, by rw [List.length_append, HN.out.2]; rfl⟩⟩
      case measure => simp [intOf]; omega
    · obtain rfl : k = n := by omega
      obtain ⟨ca, hca⟩ : ∃ c, cs[a]? = some c := ⟨_, List.getElem?_eq_getElem (by have := HN.out.2; omega)⟩
      obtain ⟨cb, hcb⟩ : ∃ c, cs[b]? = some c := ⟨_, List.getElem?_eq_getElem (by have := HN.out.2; omega)⟩
      obtain ⟨g, cap, rfl⟩ : ∃ g cap, u8 = .slice (some ⟨g, 0, none⟩) k cap := by
        rcases ho.2 with ⟨_, h0⟩ | ⟨g, cap, _, e, _⟩
        · omega
        · exact ⟨g, cap, e⟩
      have hnb : cb.name = nm b := by obtain ⟨_, _, e⟩ := HN.out.1 b cb hcb; rw [e]; rfl
      have ya := (World.ownsRow.cellAt ho (a * 7) (by omega)).trans (cfs_at (j := 0) hca rfl)
      have yb := (World.ownsRow.cellAt ho (b * 7) (by omega)).trans (cfs_at (j := 0) hcb rfl)
      rw [hnb] at yb
      have fa := World.ownsRow.frozenAt ho (a * 7)
      have st := World.ownsRow.stored ho (a * 7) (.string (nm b))
      rw [flat_set hca] at st
      have HO := Lib.hid st.1
      have HB := Lib.hid (own_below hbl ho st.2 (Nat.le_refl _) hbl.size)
      have HM := Lib.hid (nms_set HN.out.1 hca (nm b))
      have HW := Lib.hid (want_is HM.out (by rw [List.length_set]; exact HN.out.2) hn hn' ha hb)
      obtain ⟨A, c', e', hcc, hcfs⟩ := ownC_cfs st.1
      cases e'
      have HD := Lib.hid (deal_any _ _ _ _ _ _ hcfs (Nat.le_refl _) hcc (nms_ok HM.out (fun i hi => by rw [List.length_set, HN.out.2] at hi; show (if i = a then nm b else nm i).size ≤ 1; split; exact Nat.le_of_eq (nm_is (by omega)).2.1; exact Nat.le_of_eq (nm_is (by omega)).2.1)) (by unfold maxLen; omega))
      clear st ho hbl hcb hnb HN hk h hcc hcfs
      by_cases h8 : 8 < k
      · have HE := Lib.hid (HW.out.trans (if_pos h8))
        have x0 : decide ((8 : Int) < (k : Int)) = true := decide_eq_true (by omega)
        go_wp2_with (first
                  | (go_at_call 9; (with_reducible refine HD.out.mono ?_); rintro e w2 ⟨⟨v2, rfl, o2⟩, b2⟩; rw [HE.out]; have B2 := Lib.hid (belowThen HB.out b2 HB.out.size); clear b2 o2 HD)
                  | (go_at_call 11; (with_reducible refine (num_any _ _).mono ?_); rintro e w3 ⟨rfl, rfl⟩))
        go_ret
        exact ⟨rfl, B2.out⟩
      · have x0 : decide ((8 : Int) < (k : Int)) = false := decide_eq_false (by omega)
        have HW2 := HW.out.trans (if_neg h8)
        by_cases hab : a = b
        · have HE := Lib.hid (HW2.trans (if_pos hab))
          have x1 : ((a : Int) != (b : Int)) = false := by simp [hab]
          clear HW2 hab
          go_wp2_with (first
                    | (go_at_call 9; (with_reducible refine HD.out.mono ?_); rintro e w2 ⟨⟨v2, rfl, o2⟩, b2⟩; rw [HE.out]; have B2 := Lib.hid (belowThen HB.out b2 HB.out.size); clear b2 o2 HD)
                    | (go_at_call 11; (with_reducible refine (num_any _ _).mono ?_); rintro e w3 ⟨rfl, rfl⟩))
          go_ret
          exact ⟨rfl, B2.out⟩
        · have HE := Lib.hid (HW2.trans (if_neg hab))
          have x1 : ((a : Int) != (b : Int)) = true := by simp; omega
          clear HW2
          go_wp2_with (first
                    | (go_at_call 9; (with_reducible refine HD.out.mono ?_); rintro e w2 ⟨⟨v2, rfl, o2⟩, b2⟩; rw [HE.out]; have B2 := Lib.hid (belowThen HB.out b2 HB.out.size); clear b2 o2 HD)
                    | (go_at_call 11; (with_reducible refine (num_any _ _).mono ?_); rintro e w3 ⟨rfl, rfl⟩))
          go_ret
          exact ⟨rfl, B2.out⟩
theorem walk (a0 : Int) (a1 : Int) (a2 : Int) (w0 : (Lit.int .i64 a0).wf = true) (w1 : (Lit.int .i64 a1).wf = true) (w2 : (Lit.int .i64 a2).wf = true) (w : World) :
    Calls Try.prog 6 #[.int .i64 a0, .int .i64 a1, .int .i64 a2] w fun e w' => e = .returned (.bool true) ∧ Below w.heap.size w w' := by
  clear w0 w1 w2
  by_cases c0 : a0 < 1
  · have x0 : decide (a0 < 1) = true := decide_eq_true c0
    go_enter Try.func6, Try.ntmps6
    go_wp2_with (go_at_call 7; refine (alive_any _).mono ?_; rintro e w1 ⟨rfl, H1⟩)
    go_ret
    exact ⟨rfl, H1⟩
  have x0 : decide (a0 < 1) = false := decide_eq_false c0
  by_cases c1 : 10 < a0
  · have x1 : decide (10 < a0) = true := decide_eq_true c1
    go_enter Try.func6, Try.ntmps6
    go_wp2_with (go_at_call 7; refine (alive_any _).mono ?_; rintro e w1 ⟨rfl, H1⟩)
    go_ret
    exact ⟨rfl, H1⟩
  have x1 : decide (10 < a0) = false := decide_eq_false c1
  by_cases c2 : a1 < 0
  · have x2 : decide (a1 < 0) = true := decide_eq_true c2
    go_enter Try.func6, Try.ntmps6
    go_wp2_with (go_at_call 7; refine (alive_any _).mono ?_; rintro e w1 ⟨rfl, H1⟩)
    go_ret
    exact ⟨rfl, H1⟩
  have x2 : decide (a1 < 0) = false := decide_eq_false c2
  by_cases c3 : a0 ≤ a1
  · have x3 : decide (a0 ≤ a1) = true := decide_eq_true c3
    go_enter Try.func6, Try.ntmps6
    go_wp2_with (go_at_call 7; refine (alive_any _).mono ?_; rintro e w1 ⟨rfl, H1⟩)
    go_ret
    exact ⟨rfl, H1⟩
  have x3 : decide (a0 ≤ a1) = false := decide_eq_false c3
  by_cases c4 : a2 < 0
  · have x4 : decide (a2 < 0) = true := decide_eq_true c4
    go_enter Try.func6, Try.ntmps6
    go_wp2_with (go_at_call 7; refine (alive_any _).mono ?_; rintro e w1 ⟨rfl, H1⟩)
    go_ret
    exact ⟨rfl, H1⟩
  have x4 : decide (a2 < 0) = false := decide_eq_false c4
  by_cases c5 : a0 ≤ a2
  · have x5 : decide (a0 ≤ a2) = true := decide_eq_true c5
    go_enter Try.func6, Try.ntmps6
    go_wp2_with (go_at_call 7; refine (alive_any _).mono ?_; rintro e w1 ⟨rfl, H1⟩)
    go_ret
    exact ⟨rfl, H1⟩
  have x5 : decide (a0 ≤ a2) = false := decide_eq_false c5
  obtain ⟨n, rfl⟩ := Int.eq_ofNat_of_zero_le (show 0 ≤ a0 by omega)
  obtain ⟨a, rfl⟩ := Int.eq_ofNat_of_zero_le (show 0 ≤ a1 by omega)
  obtain ⟨b, rfl⟩ := Int.eq_ofNat_of_zero_le (show 0 ≤ a2 by omega)
  exact main n a b w (by omega) (by omega) (by omega) (by omega)
end Go.Proofs.Ytljkngalnoepmaa.capsNames
