/-
  What may be kept, and which bytes it is: the document's RightMeta and MetaBytes; conditions: the digests are of 32 bytes, the numbers of 64 bits.
-/
import Derived.Test.YthkgbcchnneloaaXa
import Derived.Test.YthkgbcchnneloaaXb
import Derived.Test.YthkgbcchnneloaaXc
import Derived.Test.YthkgbcchnneloaaXs0
import Derived.Test.YthkgbcchnneloaaXs1
import Derived.Test.YthkgbcchnneloaaPw
namespace Go.Proofs.Ythkgbcchnneloaa
open Go.RowKit
set_option linter.unusedVariables false
set_option linter.unusedSimpArgs false

theorem right_no {m : Mt} (h : In m → False) : rightB m = false := by
  cases e : rightB m with
  | false => rfl
  | true => exact (h (right_in e)).elim
theorem right_rest {m : Mt} (n1 : ¬ m.act < 0) (n2 : ¬ 1 < m.act) (n3 : okI m.h0 = true) (n4 : okI m.h1 = true) (n5 : (m.own.ver == 0) = false) (n6 : ¬ m.least < 0) (n7 : ¬ 1073741824 < m.least) (n8 : ¬ m.gott < 0) (n9 : ¬ 6 < m.gott) (n10 : ¬ m.trials < 0) (n11 : ¬ 2 < m.trials) :
    rightB m = (okI m.com && fitB m) := by
  unfold rightB inB
  rw [decide_eq_true (show 0 ≤ m.act ∧ m.act ≤ 1 by omega), n3, n4, decide_eq_true (show m.own.ver ≠ 0 by simpa using n5), decide_eq_true (show 0 ≤ m.least ∧ m.least ≤ 1073741824 by omega), decide_eq_true (show 0 ≤ m.gott ∧ m.gott ≤ 6 by omega), decide_eq_true (show 0 ≤ m.trials ∧ m.trials ≤ 2 by omega)]
  simp
theorem docRight_any (m : Mt) (w : World) (hm : m.Ok) : Calls Try.prog 7 #[.agg m.cells] w fun e w' => e = .returned (.bool (rightB m)) ∧ Below w.heap.size w w' := by
  by_cases n1 : m.act < 0
  · rw [right_no (fun h => by have := h.act; omega)]; exact doc_not1 m w hm n1
  by_cases n2 : 1 < m.act
  · rw [right_no (fun h => by have := h.act; omega)]; exact doc_not2 m w hm n1 n2
  cases n3 : okI m.h0 with
  | false => rw [right_no (fun h => by rw [h.h0] at n3; cases n3)]; exact doc_not3 m w hm n1 n2 n3
  | true =>
    cases n4 : okI m.h1 with
    | false => rw [right_no (fun h => by rw [h.h1] at n4; cases n4)]; exact doc_not4 m w hm n1 n2 n3 n4
    | true =>
      cases n5 : (m.own.ver == 0) with
      | true => rw [right_no (fun h => h.own (by simpa using n5))]; exact doc_not5 m w hm n1 n2 n3 n4 n5
      | false =>
        by_cases n6 : m.least < 0
        · rw [right_no (fun h => by have := h.least; omega)]; exact doc_not6 m w hm n1 n2 n3 n4 n5 n6
        by_cases n7 : 1073741824 < m.least
        · rw [right_no (fun h => by have := h.least; omega)]; exact doc_not7 m w hm n1 n2 n3 n4 n5 n6 n7
        by_cases n8 : m.gott < 0
        · rw [right_no (fun h => by have := h.gott; omega)]; exact doc_not8 m w hm n1 n2 n3 n4 n5 n6 n7 n8
        by_cases n9 : 6 < m.gott
        · rw [right_no (fun h => by have := h.gott; omega)]; exact doc_not9 m w hm n1 n2 n3 n4 n5 n6 n7 n8 n9
        by_cases n10 : m.trials < 0
        · rw [right_no (fun h => by have := h.trials; omega)]; exact doc_not10 m w hm n1 n2 n3 n4 n5 n6 n7 n8 n9 n10
        by_cases n11 : 2 < m.trials
        · rw [right_no (fun h => by have := h.trials; omega)]; exact doc_not11 m w hm n1 n2 n3 n4 n5 n6 n7 n8 n9 n10 n11
        rw [right_rest n1 n2 n3 n4 n5 n6 n7 n8 n9 n10 n11]
        by_cases ha : m.act = 0
        · exact doc0_any m w hm ha n3 n4 n5 n6 n7 n8 n9 n10 n11
        · exact doc1_any m w hm (by omega) n3 n4 n5 n6 n7 n8 n9 n10 n11
theorem nil_gives' {w w' : World} (hb : Below w.heap.size w w') : Gives 0 [] w (.returned (.slice none 0 0)) w' := ⟨_, rfl, own_nil _ _, hb⟩
theorem built61 : Try.prog.built 61 [] = some #[.slice none 0 0] := by kernel_rfl
set_option maxRecDepth 100000 in
set_option maxHeartbeats 4000000 in
theorem docBytes_any (m : Mt) (w : World) (hm : m.Ok) : Calls Try.prog 12 #[.agg m.cells] w (Gives (bytesM m).length (bytesM m) w) := by
  have C0 : Hid (Below w.heap.size w (w.alloc (.cells m.cells 27))) := Lib.hid ((Below.refl _ _).alloc (Nat.le_refl _) _)
  have H0 := Lib.hid (has_new w 27 m.cells)
  have S0 := Lib.hid (seen_of H0.out hm)
  have HX := Lib.hid (docRight_any m (w.alloc (.cells m.cells 27)) hm)
  cases e1 : rightB m with
  | false =>
    rw [e1] at HX
    have EL : bytesM m = [] := by unfold bytesM; rw [if_neg (by rw [e1]; simp)]
    rw [EL]
    clear e1 EL
    go_enter Try.func12, Try.ntmps12
    go_wp2_with (first
      | (refine wpList_ld 27 _ rfl _ _ S0.out.all rfl rfl ?_)
      | (go_at_call 7; (with_reducible refine HX.out.mono ?_); rintro e w1 ⟨rfl, b1⟩; clear HX; have C1 := Lib.hid (C0.out.trans (b1.mono C0.out.size)); clear b1))
    go_ret
    exact nil_gives' C1.out
  | true =>
    rw [e1] at HX
    have EL : bytesM m = metaL m := by unfold bytesM; rw [if_pos e1]
    rw [EL, meta_len]
    clear e1 EL
    go_enter Try.func12, Try.ntmps12
    go_wp2_with (first
      | (refine wpList_ld 27 _ rfl _ _ S0.out.all rfl rfl ?_)
      | (go_at_call 7; (with_reducible refine HX.out.mono ?_); rintro e w1 ⟨rfl, b1⟩; clear HX; have C1 := Lib.hid (C0.out.trans (b1.mono C0.out.size)); have K1 := Lib.hid (rk_new w w1 C1.out); have H1 := Lib.hid ((H0.out.kept b1).more (.cells #[.slice none 0 0] 61)); have HL := Lib.hid (show ¬ w1.heap.size ≤ w.heap.size by have := (H0.out.kept b1).size; omega); clear b1; have q1 : (w1.alloc (.cells #[.slice none 0 0] 61)).cell? ⟨w.heap.size, 0, none⟩ = some (.int .i64 m.act) := H1.out.at 0; have HN := Lib.hid (rk_num m.act 1 _ K1.out (by simp)); rw [cut8_1] at HN)
      | (go_at_call 28; (with_reducible refine HN.out.mono ?_); rintro e w2 ⟨rfl, k2, o2⟩; clear HN q1 K1; have H2 := Lib.hid (Has.only H1.out o2 HL.out); have L2 := Lib.hid (seen_of H2.out hm).l0; have HI1 := Lib.hid (putImage_any m.h0 _ hm.h0 k2 (by simp [num_len])); clear k2 o2)
      | (refine wpList_ld 24 _ rfl _ _ L2.out rfl rfl ?_)
      | (go_at_call 29; (with_reducible refine HI1.out.mono ?_); rintro e w3 ⟨rfl, k3, o3⟩; clear HI1 L2; have H3 := Lib.hid (Has.only H2.out o3 HL.out); have L3 := Lib.hid (seen_of H3.out hm).l1; have HI2 := Lib.hid (putImage_any m.h1 _ hm.h1 k3 (by simp [num_len, im_len])); clear k3 o3)
      | (refine wpList_ld 24 _ rfl _ _ L3.out rfl rfl ?_)
      | (go_at_call 29; (with_reducible refine HI2.out.mono ?_); rintro e w4 ⟨rfl, k4, o4⟩; clear HI2 L3; have H4 := Lib.hid (Has.only H3.out o4 HL.out); have q4 := (seen_of H4.out hm).least; have HN4 := Lib.hid (rk_num m.least 4 _ k4 (by simp [num_len, im_len])); rw [cut8_4] at HN4; clear k4 o4)
      | (go_at_call 28; (with_reducible refine HN4.out.mono ?_); rintro e w5 ⟨rfl, k5, o5⟩; clear HN4 q4; have H5 := Lib.hid (Has.only H4.out o5 HL.out); have q5 := (seen_of H5.out hm).phase; have HN5 := Lib.hid (rk_num m.phase 1 _ k5 (by simp [num_len, im_len])); rw [cut8_1] at HN5; clear k5 o5)
      | (go_at_call 28; (with_reducible refine HN5.out.mono ?_); rintro e w6 ⟨rfl, k6, o6⟩; clear HN5 q5; have H6 := Lib.hid (Has.only H5.out o6 HL.out); have L6 := Lib.hid (seen_of H6.out hm).l2; have HI3 := Lib.hid (putImage_any m.com _ hm.com k6 (by simp [num_len, im_len])); clear k6 o6)
      | (refine wpList_ld 24 _ rfl _ _ L6.out rfl rfl ?_)
      | (go_at_call 29; (with_reducible refine HI3.out.mono ?_); rintro e w7 ⟨rfl, k7, o7⟩; clear HI3 L6; have H7 := Lib.hid (Has.only H6.out o7 HL.out); have q7 := (seen_of H7.out hm).gott; have HN7 := Lib.hid (rk_num m.gott 1 _ k7 (by simp [num_len, im_len])); rw [cut8_1] at HN7; clear k7 o7)
      | (go_at_call 28; (with_reducible refine HN7.out.mono ?_); rintro e w8 ⟨rfl, k8, o8⟩; clear HN7 q7; have H8 := Lib.hid (Has.only H7.out o8 HL.out); have q8 := (seen_of H8.out hm).trials; have HN8 := Lib.hid (rk_num m.trials 1 _ k8 (by simp [num_len, im_len])); rw [cut8_1] at HN8; clear k8 o8)
      | (go_at_call 28; (with_reducible refine HN8.out.mono ?_); rintro e w9 ⟨rfl, k9, o9⟩; clear HN8 q8; obtain ⟨v9, q9, own9, b9⟩ := rk_row k9; have OW := Lib.hid (show Own w9 w.heap.size v9 128 (metaL m) by have h := own9; rw [show ([] ++ numL m.act 1 ++ imL m.h0 ++ imL m.h1 ++ numL m.least 4 ++ numL m.phase 1 ++ imL m.com ++ numL m.gott 1 ++ numL m.trials 1) = metaL m from rfl, meta_len] at h; exact h); have CB := Lib.hid b9; clear own9 k9 o9 b9; obtain ⟨A9, c9, rfl, _, _, _⟩ := OW.out.form))
    go_ret
    exact ⟨_, rfl, OW.out, CB.out⟩
end Go.Proofs.Ythkgbcchnneloaa
