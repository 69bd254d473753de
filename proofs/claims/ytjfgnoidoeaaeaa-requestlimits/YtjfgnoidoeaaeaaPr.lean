/-
  Which bytes a request and an answer are written as, by the document; conditions: the request's bytes lie as they read.
-/
import Derived.Test.YtjfgnoidoeaaeaaPw
import Derived.Deep.RegionLaw
namespace Go.Proofs.Ytjfgnoidoeaaeaa
open Go.RowKit
set_option linter.unusedVariables false
set_option linter.unusedSimpArgs false

/-- What the document's writer holds: a row of the call's own, in no block up to the writer's. -/
theorem rk_row' {w0 : World} {p B : Nat} {zs : List Int} {w : World} (hw : Rk w0 p B zs w) : ∃ v, w.cell? ⟨p, 0, none⟩ = some v ∧ Own w w0.heap.size v zs.length zs ∧ (∀ g, v.ownBlock = some g → p < g) := by
  obtain ⟨h1, hB, h2, P, ⟨_, _, v, h3, h4, h5⟩, h6⟩ := hw
  exact ⟨v, h3.at 0, h4.raise (fun g hg => by have := h6 g (h5 g hg); omega), fun g hg => (h6 g (h5 g hg)).1⟩
set_option maxRecDepth 100000 in
set_option maxHeartbeats 4000000 in
theorem rbytes_no (k n : Int) (A : Option Addr) (l c : Nat) (w : World) (h : reqB k n l = false) : Calls Try.prog 12 #[.agg (qc k n (.slice A l c))] w (Gives 0 [] w) := by
  have C0 : Hid (Below w.heap.size w (w.alloc (.cells (qc k n (.slice A l c)) 24))) := Lib.hid ((Below.refl _ _).alloc (Nat.le_refl _) _)
  have H0 := has_new w 24 (qc k n (.slice A l c))
  have q0 : (w.alloc (.cells (qc k n (.slice A l c)) 24)).cell? ⟨w.heap.size, 0, none⟩ = some (.int .i64 k) := H0.at 0
  have q1 : (w.alloc (.cells (qc k n (.slice A l c)) 24)).cell? ⟨w.heap.size, 1, none⟩ = some (.int .i64 n) := H0.at 1
  have q2 : (w.alloc (.cells (qc k n (.slice A l c)) 24)).cell? ⟨w.heap.size, 2, none⟩ = some (.slice A l c) := H0.at 2
  clear H0
  by_cases h0 : k < 1
  · clear h
    go_enter Try.func12, Try.ntmps12
    go_wp2
    go_ret
    exact nil_gives C0.out
  by_cases h1 : 9 < k
  · clear h
    go_enter Try.func12, Try.ntmps12
    go_wp2
    go_ret
    exact nil_gives C0.out
  by_cases h2 : n < 0
  · clear h
    go_enter Try.func12, Try.ntmps12
    go_wp2
    go_ret
    exact nil_gives C0.out
  by_cases h3 : 2147483647 < n
  · clear h
    go_enter Try.func12, Try.ntmps12
    go_wp2
    go_ret
    exact nil_gives C0.out
  by_cases h4 : 1000 < (l : Int)
  · clear h
    go_enter Try.func12, Try.ntmps12
    go_wp2
    go_ret
    exact nil_gives C0.out
  rw [req_of ⟨by omega, by omega⟩ ⟨by omega, by omega⟩ (by omega)] at h
  cases h
set_option maxRecDepth 100000 in
set_option maxHeartbeats 4000000 in
theorem rbytes_yes (k n : Int) (A : Option Addr) (l c : Nat) (bs : List Int) (w : World) (hr : Row w A l bs) (h : reqB k n l = true) : Calls Try.prog 12 #[.agg (qc k n (.slice A l c))] w (Gives (reqL k n bs).length (reqL k n bs) w) := by
  have C0 : Hid (Below w.heap.size w (w.alloc (.cells (qc k n (.slice A l c)) 24))) := Lib.hid ((Below.refl _ _).alloc (Nat.le_refl _) _)
  have H0 := Lib.hid (has_new w 24 (qc k n (.slice A l c)))
  have q0 : (w.alloc (.cells (qc k n (.slice A l c)) 24)).cell? ⟨w.heap.size, 0, none⟩ = some (.int .i64 k) := H0.out.at 0
  have q1 : (w.alloc (.cells (qc k n (.slice A l c)) 24)).cell? ⟨w.heap.size, 1, none⟩ = some (.int .i64 n) := H0.out.at 1
  have q2 : (w.alloc (.cells (qc k n (.slice A l c)) 24)).cell? ⟨w.heap.size, 2, none⟩ = some (.slice A l c) := H0.out.at 2
  have hi := req_in h
  have i0 : ¬ k < 1 := by omega
  have i1 : ¬ 9 < k := by omega
  have i2 : ¬ n < 0 := by omega
  have i3 : ¬ 2147483647 < n := by omega
  have i4 : ¬ 1000 < (l : Int) := by omega
  have hl := hr.1
  have HLE := Lib.hid hi.2.2
  have HZ : Hid (([] ++ numL k 1 ++ numL n 4 ++ numL (l : Int) 2) ++ bs = reqL k n bs) := Lib.hid (by unfold reqL; rw [hl]; simp)
  have HRR := Lib.hid hr
  clear hr h hi hl
  have kn := rk_new w _ C0.out
  rw [World.size_alloc] at kn
  have K0 := Lib.hid kn
  clear kn
  have H1 := Lib.hid (H0.out.more (.cells #[.slice none 0 0] 65))
  have r0 : ((w.alloc (.cells (qc k n (.slice A l c)) 24)).alloc (.cells #[.slice none 0 0] 65)).cell? ⟨w.heap.size, 0, none⟩ = some (.int .i64 k) := H1.out.at 0
  have HP := Lib.hid (show ¬ w.heap.size + 1 ≤ w.heap.size by omega)
  have HN1 := Lib.hid (rk_num k 1 _ K0.out (by simp))
  rw [cut8_1] at HN1
  clear H0
  go_enter Try.func12, Try.ntmps12
  go_wp2_with (first
    | (go_at_call 28; (with_reducible refine HN1.out.mono ?_); rintro e w1 ⟨rfl, k1, o1⟩; clear HN1 r0; have H2 := Lib.hid (Has.only H1.out o1 HP.out); have r1 : w1.cell? ⟨w.heap.size, 1, none⟩ = some (.int .i64 n) := H2.out.at 1; have HN2 := Lib.hid (rk_num n 4 _ k1 (by simp [num_len])); rw [cut8_4] at HN2; clear k1 o1)
    | (go_at_call 28; (with_reducible refine HN2.out.mono ?_); rintro e w2 ⟨rfl, k2, o2⟩; clear HN2 r1; have H3 := Lib.hid (Has.only H2.out o2 HP.out); have r2 : w2.cell? ⟨w.heap.size, 2, none⟩ = some (.slice A l c) := H3.out.at 2; have HN3 := Lib.hid (rk_num (l : Int) 2 _ k2 (by simp [num_len])); rw [cut8_2] at HN3; clear k2 o2)
    | (go_at_call 28; (with_reducible refine HN3.out.mono ?_); rintro e w3 ⟨rfl, k3, o3⟩; clear HN3 r2; have H4 := Lib.hid (Has.only H3.out o3 HP.out); have r3 : w3.cell? ⟨w.heap.size, 2, none⟩ = some (.slice A l c) := H4.out.at 2; have K3 := Lib.hid k3; clear k3 o3))
  obtain ⟨v, hv, ov, pv⟩ := rk_row' K3.out
  have b3 := K3.out.2.2.1
  have bd : Below w3.heap.size w3 w3.drew := (Below.refl _ w3).drew
  have hrd : Row w3.drew A l bs := row_below bd (row_below b3 HRR.out)
  have ovd := ov.kept bd
  have bbd : Below w.heap.size w w3.drew := b3.drew
  have HLN := Lib.hid (show ([] ++ numL k 1 ++ numL n 4 ++ numL (l : Int) 2).length = 7 by simp [num_len])
  obtain ⟨v', w', hrun, h3, h4⟩ := runs_app w3.drew w.heap.size 22 v _ _ ovd A l c bs hrd (row_none hrd) (by have := HLN.out; have := HLE.out; omega) bbd.size
  have HRUN := Lib.hid hrun
  rw [HZ.out] at h3
  clear hrun
  go_region_law (refine step_run (by rfl) (.tmp 46) (.tmp 48) rfl 22 rfl v (.slice A l c) v' (by simp [Act.eval, Act.put]) (by simp [Act.eval, Act.put]) HRUN.out ?_)
  all_goals
    go_wp2
    go_ret
    refine ⟨v', rfl, ?_, below_own bbd ovd h4 (Nat.le_refl _) bbd.size⟩
    have e1 : (reqL k n bs).length = ([] ++ numL k 1 ++ numL n 4 ++ numL (l : Int) 2).length + l := by rw [req_len, HLN.out, HRR.out.1]
    rw [e1]
    exact h3
theorem rbytes_any (k n : Int) (A : Option Addr) (l c : Nat) (bs : List Int) (w : World) (hr : Row w A l bs) : Calls Try.prog 12 #[.agg (qc k n (.slice A l c))] w (Gives (reqOut k n bs).length (reqOut k n bs) w) := by
  cases e : reqB k n l with
  | false => unfold reqOut; rw [if_neg (by rw [hr.1, e]; simp)]; exact rbytes_no k n A l c w e
  | true => unfold reqOut; rw [if_pos (by rw [hr.1, e])]; exact rbytes_yes k n A l c bs w hr e
set_option maxRecDepth 100000 in
set_option maxHeartbeats 4000000 in
theorem ranswer_no (r : Rp) (w : World) (h : respB r = false) : Calls Try.prog 16 #[.agg r.cells] w (Gives 0 [] w) := by
  have C0 : Hid (Below w.heap.size w (w.alloc (.cells r.cells 27))) := Lib.hid ((Below.refl _ _).alloc (Nat.le_refl _) _)
  have H0 := has_new w 27 r.cells
  have q0 := ld25 (show (w.alloc (.cells r.cells 27)).cell? ⟨w.heap.size, 0, none⟩ = some (.int .i64 r.err) from H0.at 0)
  have q1 : (w.alloc (.cells r.cells 27)).cell? ⟨w.heap.size, 1, none⟩ = some (.int .i64 r.num) := H0.at 1
  have q2 : (w.alloc (.cells r.cells 27)).cell? ⟨w.heap.size, 2, none⟩ = some (.int .i64 r.gott) := H0.at 2
  clear H0
  by_cases h0 : r.err < 0
  · clear h
    go_enter Try.func16, Try.ntmps16
    go_wp2_with (refine wpList_ld 25 _ rfl _ _ q0 rfl rfl ?_)
    go_ret
    exact nil_gives C0.out
  by_cases h1 : 16 < r.err
  · clear h
    go_enter Try.func16, Try.ntmps16
    go_wp2_with (refine wpList_ld 25 _ rfl _ _ q0 rfl rfl ?_)
    go_ret
    exact nil_gives C0.out
  by_cases h2 : r.num < 0
  · clear h
    go_enter Try.func16, Try.ntmps16
    go_wp2_with (refine wpList_ld 25 _ rfl _ _ q0 rfl rfl ?_)
    go_ret
    exact nil_gives C0.out
  by_cases h3 : 2147483647 < r.num
  · clear h
    go_enter Try.func16, Try.ntmps16
    go_wp2_with (refine wpList_ld 25 _ rfl _ _ q0 rfl rfl ?_)
    go_ret
    exact nil_gives C0.out
  by_cases h4 : r.gott < 0
  · clear h
    go_enter Try.func16, Try.ntmps16
    go_wp2_with (refine wpList_ld 25 _ rfl _ _ q0 rfl rfl ?_)
    go_ret
    exact nil_gives C0.out
  by_cases h5 : 2147483647 < r.gott
  · clear h
    go_enter Try.func16, Try.ntmps16
    go_wp2_with (refine wpList_ld 25 _ rfl _ _ q0 rfl rfl ?_)
    go_ret
    exact nil_gives C0.out
  rw [resp_of ⟨by omega, by omega⟩ ⟨by omega, by omega⟩ ⟨by omega, by omega⟩] at h
  cases h
set_option maxRecDepth 100000 in
set_option maxHeartbeats 4000000 in
theorem ranswer_yes (r : Rp) (w : World) (h : respB r = true) : Calls Try.prog 16 #[.agg r.cells] w (Gives 9 (respL r) w) := by
  have C0 : Hid (Below w.heap.size w (w.alloc (.cells r.cells 27))) := Lib.hid ((Below.refl _ _).alloc (Nat.le_refl _) _)
  have H0 := Lib.hid (has_new w 27 r.cells)
  have q0 := ld25 (show (w.alloc (.cells r.cells 27)).cell? ⟨w.heap.size, 0, none⟩ = some (.int .i64 r.err) from H0.out.at 0)
  have q1 : (w.alloc (.cells r.cells 27)).cell? ⟨w.heap.size, 1, none⟩ = some (.int .i64 r.num) := H0.out.at 1
  have q2 : (w.alloc (.cells r.cells 27)).cell? ⟨w.heap.size, 2, none⟩ = some (.int .i64 r.gott) := H0.out.at 2
  have hi := resp_in h
  have i0 : ¬ r.err < 0 := by omega
  have i1 : ¬ 16 < r.err := by omega
  have i2 : ¬ r.num < 0 := by omega
  have i3 : ¬ 2147483647 < r.num := by omega
  have i4 : ¬ r.gott < 0 := by omega
  have i5 : ¬ 2147483647 < r.gott := by omega
  have HZ : Hid (([] ++ numL r.err 1 ++ numL r.num 4 ++ numL r.gott 4) = respL r) := Lib.hid (by unfold respL; simp)
  clear h hi
  have kn := rk_new w _ C0.out
  rw [World.size_alloc] at kn
  have K0 := Lib.hid kn
  clear kn
  have H1 := Lib.hid (H0.out.more (.cells #[.slice none 0 0] 65))
  have r0 := Lib.hid (ld25 (show ((w.alloc (.cells r.cells 27)).alloc (.cells #[.slice none 0 0] 65)).cell? ⟨w.heap.size, 0, none⟩ = some (.int .i64 r.err) from H1.out.at 0))
  have HP := Lib.hid (show ¬ w.heap.size + 1 ≤ w.heap.size by omega)
  have HN1 := Lib.hid (rk_num r.err 1 _ K0.out (by simp))
  rw [cut8_1] at HN1
  clear H0
  go_enter Try.func16, Try.ntmps16
  go_wp2_with (first
    | (refine wpList_ld 25 _ rfl _ _ q0 rfl rfl ?_)
    | (refine wpList_ld 25 _ rfl _ _ r0.out rfl rfl ?_)
    | (go_at_call 28; (with_reducible refine HN1.out.mono ?_); rintro e w1 ⟨rfl, k1, o1⟩; clear HN1 r0; have H2 := Lib.hid (Has.only H1.out o1 HP.out); have r1 : w1.cell? ⟨w.heap.size, 1, none⟩ = some (.int .i64 r.num) := H2.out.at 1; have HN2 := Lib.hid (rk_num r.num 4 _ k1 (by simp [num_len])); rw [cut8_4] at HN2; clear k1 o1)
    | (go_at_call 28; (with_reducible refine HN2.out.mono ?_); rintro e w2 ⟨rfl, k2, o2⟩; clear HN2 r1; have H3 := Lib.hid (Has.only H2.out o2 HP.out); have r2 : w2.cell? ⟨w.heap.size, 2, none⟩ = some (.int .i64 r.gott) := H3.out.at 2; have HN3 := Lib.hid (rk_num r.gott 4 _ k2 (by simp [num_len])); rw [cut8_4] at HN3; clear k2 o2)
    | (go_at_call 28; (with_reducible refine HN3.out.mono ?_); rintro e w3 ⟨rfl, k3, o3⟩; clear HN3 r2; rw [HZ.out] at k3; obtain ⟨v, hv, ov, b3⟩ := rk_row k3; clear k3 o3))
  go_ret
  rw [resp_len] at ov
  exact ⟨v, rfl, ov, b3⟩
theorem ranswer_any (r : Rp) (w : World) : Calls Try.prog 16 #[.agg r.cells] w (Gives (respOut r).length (respOut r) w) := by
  cases e : respB r with
  | false => unfold respOut; rw [if_neg (by rw [e]; simp)]; exact ranswer_no r w e
  | true => unfold respOut; rw [if_pos e, resp_len]; exact ranswer_yes r w e
end Go.Proofs.Ytjfgnoidoeaaeaa
