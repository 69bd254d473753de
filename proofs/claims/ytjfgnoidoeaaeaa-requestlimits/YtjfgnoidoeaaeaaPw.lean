/-
  Which bytes a request and an answer are written as, by the program; conditions: the request's bytes lie as they read, its numbers are of 64 bits.
-/
import Derived.Test.YtjfgnoidoeaaeaaWk
namespace Go.Proofs.Ytjfgnoidoeaaeaa
open Go.RowKit
set_option linter.unusedVariables false
set_option linter.unusedSimpArgs false

theorem cut8_4 : cutN 4 8 = 4 := by decide
theorem cut8_2 : cutN 2 8 = 2 := by decide
theorem cut8_1 : cutN 1 8 = 1 := by decide
theorem Wk.at {w0 w : World} {p : Nat} {zs : List Int} (h : Wk w0 p zs w) : p < w.heap.size := by
  obtain ⟨_, _, P, h3, _⟩ := h
  exact h3.at
theorem Rk.at {w0 w : World} {p B : Nat} {zs : List Int} (h : Rk w0 p B zs w) : p < w.heap.size := by
  obtain ⟨_, _, _, P, h3, _⟩ := h
  exact h3.at
/-- What a writer's call leaves: nothing but the writer itself has turned. -/
def WpTo (w0 : World) (p : Nat) (zs : List Int) (w : World) (e : Ending) (w' : World) : Prop := e = .returned (.tuple #[]) ∧ Wk w0 p zs w' ∧ Only (fun b => b = p) w w'
theorem wp_of {w0 w w' : World} {p : Nat} {P : Nat → Prop} {zs : List Int} (h1 : w0.heap.size ≤ p) (h2 : Below w0.heap.size w0 w) (hP : ∀ b, P b → b < w.heap.size) (h : WrTo p P zs w w') : WpTo w0 p zs w (.returned (.tuple #[])) w' :=
  ⟨rfl, ⟨h1, h2.trans (h.2.to_below h2.size (fun b e => by omega)), _, h.1, h.lt hP⟩, h.2⟩
theorem wp_raw {w0 : World} {p : Nat} {zs : List Int} (A : Option Addr) (n c : Nat) (ys : List Int) (s : Int) (w : World) (hr : Row w A n ys) (hw : Wk w0 p zs w) (hle : zs.length ≤ 900000) :
    Calls Try.prog 19 #[.pointer (some ⟨p, 0, none⟩), .slice A n c, .int .i64 s] w (WpTo w0 p (zs ++ rawL ys (cutN s 1000)) w) := by
  obtain ⟨h1, h2, P, h3, h4⟩ := hw
  refine (wraw_any A n c ys s w hr h3 hle).mono ?_
  rintro e w' ⟨rfl, h⟩
  exact wp_of h1 h2 h4 h
theorem wp_num {w0 : World} {p : Nat} {zs : List Int} (n s : Int) (w : World) (hn : I64 n) (hw : Wk w0 p zs w) (hle : zs.length ≤ 900000) :
    Calls Try.prog 18 #[.pointer (some ⟨p, 0, none⟩), .int .i64 n, .int .i64 s] w (WpTo w0 p (zs ++ numL n (cutN s 8)) w) := by
  obtain ⟨h1, h2, P, h3, h4⟩ := hw
  refine (wnum_any n s w hn h3 hle).mono ?_
  rintro e w' ⟨rfl, h⟩
  exact wp_of h1 h2 h4 h
theorem nil_gives {w w' : World} (hb : Below w.heap.size w w') : Gives 0 [] w (.returned (.slice none 0 0)) w' := ⟨_, rfl, own_nil _ _, hb⟩
theorem raw_all {zs : List Int} {n : Nat} (h : zs.length = n) : rawL zs n = zs := by unfold rawL; rw [List.take_of_length_le (by omega), show n - zs.length = 0 by omega]; simp
set_option maxRecDepth 100000 in
set_option maxHeartbeats 4000000 in
theorem bytes_any' (k n : Int) (A : Option Addr) (l c : Nat) (bs : List Int) (w : World) (hk : I64 k) (hn : I64 n) (hr : Row w A l bs) : Calls Try.prog 7 #[.agg (qc k n (.slice A l c))] w (Gives (reqOut k n bs).length (reqOut k n bs) w) := by
  have C0 : Hid (Below w.heap.size w (w.alloc (.cells (qc k n (.slice A l c)) 24))) := Lib.hid ((Below.refl _ _).alloc (Nat.le_refl _) _)
  have H0 := Lib.hid (has_new w 24 (qc k n (.slice A l c)))
  have S0 := Lib.hid (ld24 H0.out)
  have HX := Lib.hid (rightReq_any k n A l c (w.alloc (.cells (qc k n (.slice A l c)) 24)))
  have hl := hr.1
  have HR := Lib.hid hr
  clear hr
  cases e1 : reqB k n l with
  | false =>
    rw [e1] at HX
    have EL : reqOut k n bs = [] := by unfold reqOut; rw [if_neg (by rw [hl, e1]; simp)]
    rw [EL]
    clear e1 EL hl
    go_enter Try.func7, Try.ntmps7
    go_wp2_with (first
      | (refine wpList_ld 24 _ rfl _ _ S0.out rfl rfl ?_)
      | (go_at_call 17; (with_reducible refine HX.out.mono ?_); rintro e w1 ⟨rfl, b1⟩; clear HX; have C1 := Lib.hid (C0.out.trans (b1.mono C0.out.size)); clear b1))
    go_ret
    exact nil_gives C1.out
  | true =>
    rw [e1] at HX
    have EL : reqOut k n bs = reqL k n bs := by unfold reqOut; rw [if_pos (by rw [hl, e1])]
    have hi := Lib.hid (req_in e1)
    have HZ : Hid (([] ++ numL k 1 ++ numL n 4 ++ numL (l : Int) 2 ++ rawL bs l) = reqL k n bs) := Lib.hid (by rw [raw_all hl]; unfold reqL; rw [hl]; simp)
    have HLL := Lib.hid (show cutN (l : Int) 1000 = l by unfold cutN; have := hi.out.2.2; omega)
    have HLI := Lib.hid (show I64 (l : Int) by have := hi.out.2.2; unfold I64; omega)
    rw [EL]
    clear e1 EL
    go_enter Try.func7, Try.ntmps7
    go_wp2_with (first
      | (refine wpList_ld 24 _ rfl _ _ S0.out rfl rfl ?_)
      | (go_at_call 17; (with_reducible refine HX.out.mono ?_); rintro e w1 ⟨rfl, b1⟩; clear HX; have C1 := Lib.hid (C0.out.trans (b1.mono C0.out.size)); have K1 := Lib.hid (wk_new w w1 C1.out); have H1 := Lib.hid ((H0.out.kept b1).more (.cells #[.pointer none, .int .i64 0] 50)); have HL := Lib.hid (show ¬ w.heap.size = w1.heap.size by have := (H0.out.kept b1).size; omega); clear b1; have q1 : (w1.alloc (.cells #[.pointer none, .int .i64 0] 50)).cell? ⟨w.heap.size, 0, none⟩ = some (.int .i64 k) := H1.out.at 0; have HN := Lib.hid (wp_num k 1 _ hk K1.out (by simp)); rw [cut8_1] at HN)
      | (go_at_call 18; (with_reducible refine HN.out.mono ?_); rintro e w2 ⟨rfl, k2, o2⟩; clear HN q1; have H2 := Lib.hid (Has.only H1.out o2 HL.out); have q2 : w2.cell? ⟨w.heap.size, 1, none⟩ = some (.int .i64 n) := H2.out.at 1; have HN2 := Lib.hid (wp_num n 4 _ hn k2 (by simp [num_len])); rw [cut8_4] at HN2; clear k2 o2)
      | (go_at_call 18; (with_reducible refine HN2.out.mono ?_); rintro e w3 ⟨rfl, k3, o3⟩; clear HN2 q2; have H3 := Lib.hid (Has.only H2.out o3 HL.out); have q3 : w3.cell? ⟨w.heap.size, 2, none⟩ = some (.slice A l c) := H3.out.at 2; have HN3 := Lib.hid (wp_num (l : Int) 2 _ HLI.out k3 (by simp [num_len])); rw [cut8_2] at HN3; clear k3 o3)
      | (go_at_call 18; (with_reducible refine HN3.out.mono ?_); rintro e w4 ⟨rfl, k4, o4⟩; clear HN3 q3; have H4 := Lib.hid (Has.only H3.out o4 HL.out); have q4 : w4.cell? ⟨w.heap.size, 2, none⟩ = some (.slice A l c) := H4.out.at 2; have HW := Lib.hid (wp_raw A l c bs (l : Int) _ (row_below k4.2.1 HR.out) k4 (by simp [num_len])); rw [HLL.out] at HW; clear k4 o4)
      | (go_at_call 19; (with_reducible refine HW.out.mono ?_); rintro e w5 ⟨rfl, k5, o5⟩; clear HW q4; rw [HZ.out] at k5; have K5 := Lib.hid k5; have HB := Lib.hid (wk_bytes w5 k5); clear k5 o5)
      | (go_at_call 20; (with_reducible refine HB.out.mono ?_); rintro e w6 ⟨v6, rfl, o6, b6⟩))
    go_ret
    have b5 := K5.out.2.1
    exact ⟨v6, rfl, o6.lower b5.size, b5.trans (b6.mono b5.size)⟩
set_option maxRecDepth 100000 in
set_option maxHeartbeats 4000000 in
theorem answer_any (r : Rp) (w : World) (h1 : I64 r.err) (h2 : I64 r.num) (h3 : I64 r.gott) : Calls Try.prog 15 #[.agg r.cells] w (Gives (respOut r).length (respOut r) w) := by
  have C0 : Hid (Below w.heap.size w (w.alloc (.cells r.cells 27))) := Lib.hid ((Below.refl _ _).alloc (Nat.le_refl _) _)
  have H0 := Lib.hid (has_new w 27 r.cells)
  have S0 := Lib.hid (ld27 H0.out)
  have HX := Lib.hid (rightResp_any r (w.alloc (.cells r.cells 27)))
  cases e1 : respB r with
  | false =>
    rw [e1] at HX
    have EL : respOut r = [] := by unfold respOut; rw [if_neg (by rw [e1]; simp)]
    rw [EL]
    clear e1 EL
    go_enter Try.func15, Try.ntmps15
    go_wp2_with (first
      | (refine wpList_ld 27 _ rfl _ _ S0.out rfl rfl ?_)
      | (go_at_call 29; (with_reducible refine HX.out.mono ?_); rintro e w1 ⟨rfl, b1⟩; clear HX; have C1 := Lib.hid (C0.out.trans (b1.mono C0.out.size)); clear b1))
    go_ret
    exact nil_gives C1.out
  | true =>
    rw [e1] at HX
    have EL : respOut r = respL r := by unfold respOut; rw [if_pos e1]
    have HZ : Hid (([] ++ numL r.err 1 ++ numL r.num 4 ++ numL r.gott 4) = respL r) := Lib.hid (by unfold respL; simp)
    rw [EL]
    clear e1 EL
    go_enter Try.func15, Try.ntmps15
    go_wp2_with (first
      | (refine wpList_ld 27 _ rfl _ _ S0.out rfl rfl ?_)
      | (refine wpList_ld 25 _ rfl _ _ q1.out rfl rfl ?_)
      | (go_at_call 29; (with_reducible refine HX.out.mono ?_); rintro e w1 ⟨rfl, b1⟩; clear HX; have C1 := Lib.hid (C0.out.trans (b1.mono C0.out.size)); have K1 := Lib.hid (wk_new w w1 C1.out); have H1 := Lib.hid ((H0.out.kept b1).more (.cells #[.pointer none, .int .i64 0] 50)); have HL := Lib.hid (show ¬ w.heap.size = w1.heap.size by have := (H0.out.kept b1).size; omega); clear b1; have q1 := Lib.hid (ld25 (show (w1.alloc (.cells #[.pointer none, .int .i64 0] 50)).cell? ⟨w.heap.size, 0, none⟩ = some (.int .i64 r.err) from H1.out.at 0)); have HN := Lib.hid (wp_num r.err 1 _ h1 K1.out (by simp)); rw [cut8_1] at HN)
      | (go_at_call 18; (with_reducible refine HN.out.mono ?_); rintro e w2 ⟨rfl, k2, o2⟩; clear HN q1; have H2 := Lib.hid (Has.only H1.out o2 HL.out); have q2 : w2.cell? ⟨w.heap.size, 1, none⟩ = some (.int .i64 r.num) := H2.out.at 1; have HN2 := Lib.hid (wp_num r.num 4 _ h2 k2 (by simp [num_len])); rw [cut8_4] at HN2; clear k2 o2)
      | (go_at_call 18; (with_reducible refine HN2.out.mono ?_); rintro e w3 ⟨rfl, k3, o3⟩; clear HN2 q2; have H3 := Lib.hid (Has.only H2.out o3 HL.out); have q3 : w3.cell? ⟨w.heap.size, 2, none⟩ = some (.int .i64 r.gott) := H3.out.at 2; have HN3 := Lib.hid (wp_num r.gott 4 _ h3 k3 (by simp [num_len])); rw [cut8_4] at HN3; clear k3 o3)
      | (go_at_call 18; (with_reducible refine HN3.out.mono ?_); rintro e w5 ⟨rfl, k5, o5⟩; clear HN3 q3; rw [HZ.out] at k5; have K5 := Lib.hid k5; have HB := Lib.hid (wk_bytes w5 k5); clear k5 o5)
      | (go_at_call 20; (with_reducible refine HB.out.mono ?_); rintro e w6 ⟨v6, rfl, o6, b6⟩))
    go_ret
    have b5 := K5.out.2.1
    exact ⟨v6, rfl, o6.lower b5.size, b5.trans (b6.mono b5.size)⟩
end Go.Proofs.Ytjfgnoidoeaaeaa
