/-
  What is proved: for all numbers and all rows of bytes the law CellTells answers true: any cell is written as the document says, any bytes are read as the cell that the document says, or as none, and what was written is read as it was (rows of up to 300 bytes to be written, of up to 1000 to be read; longer ones the law lets by). Conditions: none.
-/
import Derived.Test.YtdlbdhamlmladaaAlive
import Derived.Deep.RegionHeld3
import Derived.Test.YtdlbdhamlmladaaRows
import Derived.WalkKit
import Derived.ProofKit
import Derived.OpenShut
import Derived.ShutString
import Derived.ChangeOld
import Derived.Below
namespace Go.Proofs.Ytdlbdhamlmladaa.cellTells
open Go.ChangeShapes Go.WideShapes Go.ChangeAt Go.RowKit
open Go.ChangeMaps (open_string shut_string)
set_option linter.unusedVariables false
set_option linter.unusedSimpArgs false

theorem own : ownKnob Try.prog.godebug = none := by kernel_rfl
theorem laidOut : laidOutB Try.prog = true := by kernel_rfl

/-- WHAT THE WALK IS TOLD OF A SLICE OF INTEGERS THAT CAME IN: it is nil; or it leads to a row of 'cap' cells, the numbers 'zs' (the first 'len' are its elements, the rest its spare room), each fitting its kind. -/
def IsRow (k : IntKind) (w : World) (a : Option Addr) (len cap : Nat) (zs : List Int) : Prop :=
  (a = none ∧ len = 0 ∧ cap = 0 ∧ zs = []) ∨
  ∃ x, a = some x ∧ len ≤ cap ∧ cap ≤ maxLen ∧ zs.length = cap ∧ (∀ i, i < zs.length → w.cell? (x.add i) = some (.int k (zs.getD i 0))) ∧ ∀ n ∈ zs, (Lit.int k n).wf = true

set_option maxRecDepth 100000 in
set_option maxHeartbeats 4000000 in
theorem walk (a0 : Int) (a1 : Option Addr) (len1 cap1 : Nat) (z1 : List Int) (a2 : Option Addr) (len2 cap2 : Nat) (z2 : List Int) (w : World) (w0 : (Lit.int .i64 a0).wf = true) (w1 : IsRow .u8 w a1 len1 cap1 z1) (w2 : IsRow .u8 w a2 len2 cap2 z2) :
    Calls Try.prog 3 #[.int .i64 a0, .slice a1 len1 cap1, .slice a2 len2 cap2] w fun e w' => e = .returned (.bool true) ∧ Below w.heap.size w w' := by
  have hr := row_of w1
  have hc := row_of w2
  have hn := bounds_i64 w0
  clear w0 w1 w2
  generalize z1.take len1 = zs at *
  generalize z2.take len2 = cs at *
  by_cases u0 : 300 < len1
  · have i0 : (300 : Int) < (len1 : Int) := by omega
    go_enter Try.func3, Try.ntmps3
    go_wp2_with (go_at_call 6; refine (alive_any _).mono ?_; rintro e w1 ⟨rfl, H1⟩)
    go_ret
    exact ⟨rfl, H1⟩
  have i0 : ¬ (300 : Int) < (len1 : Int) := by omega
  by_cases u1 : 1000 < len2
  · have i1 : (1000 : Int) < (len2 : Int) := by omega
    go_enter Try.func3, Try.ntmps3
    go_wp2_with (go_at_call 6; refine (alive_any _).mono ?_; rintro e w1 ⟨rfl, H1⟩)
    go_ret
    exact ⟨rfl, H1⟩
  have i1 : ¬ (1000 : Int) < (len2 : Int) := by omega
  have HR := Lib.hid hr
  have HC := Lib.hid hc
  clear hr hc
  by_cases her : errN a0 len1 = 0
  · obtain ⟨hsq, hle⟩ := err_zero her
    have HOU := Lib.hid (show outL a0 zs len1 = cellL a0 zs from out_some hsq hle)
    have HER := Lib.hid her
    have HSQ := Lib.hid hsq
    have HCL := Lib.hid (cell_len a0 zs)
    clear her hsq
    go_enter Try.func3, Try.ntmps3
    go_wp2_with (first
      | (go_at_call 6; refine (alive_any _).mono ?_; rintro e w1 ⟨rfl, H1⟩; have hr1 := row_below H1 HR.out; have hn1 := own_nil w1 w1.heap.size)
      | (at_builtin; (with_reducible refine wpList_app rfl _ _ rfl w1.heap.size (.slice none 0 0) 0 [] rfl hn1 _ _ _ zs rfl hr1 (row_none hr1) (by omega) (Nat.le_refl _) ?_); intro v2 w2 o2 g2; rw [Nat.zero_add, List.nil_append] at o2; have b2 := below_own (Below.refl _ w1) hn1 g2 (Nat.le_refl _) (Nat.le_refl _); obtain ⟨A2, c2, rfl, hc2, hx2, _⟩ := o2.form; have HP := Lib.hid (cput_any a0 A2 len1 c2 zs w2 hn hx2); rw [HOU.out, HER.out] at HP; have T2 := belowThen H1 b2; clear o2 g2 hn1 hr1 hx2)
      | (go_at_call 7; (with_reducible refine HP.out.mono ?_); rintro e w3 ⟨v3, rfl, o3, b3⟩; obtain ⟨A3, c3, rfl, hc3, hx3, _⟩ := (show Own w3 w2.heap.size v3 320 (cellL a0 zs) by rw [← HCL.out]; exact o3).form; have T3 := belowThen T2 b3; have HQ := Lib.hid (rcput_any a0 a1 len1 cap1 zs w3 (row_below T3 HR.out)); rw [HOU.out, HER.out] at HQ; clear o3 HP)
      | (go_at_call 8; (with_reducible refine HQ.out.mono ?_); rintro e w4 ⟨v4, rfl, o4, b4⟩; obtain ⟨A4, c4, rfl, hc4, hx4, _⟩ := (show Own w4 w3.heap.size v4 320 (cellL a0 zs) by rw [← HCL.out]; exact o4).form; have T4 := belowThen T3 b4; have HG := Lib.hid (cget_any a2 len2 cap2 cs w4 (row_below T4 HC.out)); clear o4 HQ)
      | (go_at_call 9; (with_reducible refine HG.out.mono ?_); rintro e w5 ⟨n5, v5, rs5, k5, rfl, hk5, o5, b5⟩; obtain ⟨A5, c5, rfl, hc5, hx5, _⟩ := o5.form; have T5 := belowThen T4 b5; have HK := Lib.hid hk5; have HI := Lib.hid (rcget_any a2 len2 cap2 cs w5 (row_below T5 HC.out) (by omega)); clear o5 HG hk5)
      | (go_at_call 10; (with_reducible refine HI.out.mono ?_); rintro e w6 ⟨n6, v6, rs6, k6, rfl, hk6, o6, b6⟩; obtain ⟨rfl, rfl, rfl⟩ := HK.out.same hk6; obtain ⟨A6, c6, rfl, hc6, hx6, _⟩ := o6.form; have T6 := belowThen T5 b6; have hv3 := conv_row (c := c3) (row_below (belowThen b4 (belowThen b5 b6)) hx3); have hv4 := conv_row (c := c4) (row_below (belowThen b5 b6) hx4); have hv5 := conv_row (c := c5) (row_below b6 hx5); have hv6 := conv_row (c := c6) hx6; clear o6 HI hk6 HK; have HX := Lib.hid (cget_any A3 320 c3 _ w6 (row_below (belowThen b4 (belowThen b5 b6)) hx3)); clear hx3 hx4 hx5 hx6)
      | (go_at_call 11; (with_reducible refine (lnum_any _ _).mono ?_); rintro e w7 ⟨rfl, rfl⟩)
      | (go_at_call 9; (with_reducible refine HX.out.mono ?_); rintro e w8 ⟨n8, v8, rs8, k8, rfl, hk8, o8, b8⟩; obtain ⟨rfl, rfl, rfl⟩ := cell_back HSQ.out hk8; rw [raw_len] at o8; obtain ⟨A8, c8, rfl, hc8, hx8, _⟩ := o8.form; have T8 := belowThen T6 b8; clear o8 HX hk8))
    obtain ⟨A9, e9, r9, _⟩ := row_head hx8 (row_lies hx8) len1 (by omega) hc8
    have hzl := HR.out.1
    rw [show (rawL zs 156).take len1 = zs by rw [← hzl]; exact raw_head (by omega)] at r9
    have HSL := Lib.hid (fun (W : World) (_ : Below w8.heap.size w8.drew W) => show (Instr.sliceAt 22 (.slice A8 156 c8) none (some (.int .i64 (len1 : Int))) none).run Try.prog W = .ok (.slice A9 len1 c8) W by rw [← e9]; exact run_upto W A8 156 c8 .i64 len1 (by omega))
    have bd : Below w8.heap.size w8 w8.drew := (Below.refl _ w8).drew
    have T9 := T8.drew
    have HCD := Lib.hid (fun W (hW : Below w8.heap.size w8.drew W) => conv_row (c := c8) (row_below (w := w8.drew) hW (row_below bd r9)))
    have HCB := Lib.hid (fun W (hW : Below w8.heap.size w8.drew W) => conv_row (c := cap1) (row_below (w := w8.drew) hW (row_below T9 HR.out)))
    have b9 : Below w8.heap.size w8.drew w8.drew := Below.refl _ _
    clear hx8 r9 e9 bd
    refine wp_region_held_drew (S := fun w' => Below w8.heap.size w8.drew w') (by kernel_rfl) b9 ?_
    intro hS9
    refine wpAnyH_take (i := 0) (v := .bool true) rfl (by kernel_rfl) (by kernel_rfl) (by kernel_rfl) (fun _ _ _ h => h) (Or.inl ⟨by rfl, (fun W _ => by go_simp)⟩) hS9 ?_
    simp only [List.getElem_toArray, List.getElem_cons_succ, List.getElem_cons_zero, Act.put, List.setIfInBounds_toArray, List.set_cons_zero, List.set_cons_succ]
    refine wpAnyH_take (i := 1) (v := .bool true) rfl (by kernel_rfl) (by kernel_rfl) (by kernel_rfl) (fun _ _ _ h => h) (Or.inl ⟨by rfl, (fun W _ => by go_simp)⟩) hS9 ?_
    simp only [List.getElem_toArray, List.getElem_cons_succ, List.getElem_cons_zero, Act.put, List.setIfInBounds_toArray, List.set_cons_zero, List.set_cons_succ]
    refine wpAnyH_take (i := 2) (v := .int .i64 n8) rfl (by kernel_rfl) (by kernel_rfl) (by kernel_rfl) (fun _ _ _ h => h) (Or.inl ⟨by rfl, (fun W _ => by go_simp)⟩) hS9 ?_
    simp only [List.getElem_toArray, List.getElem_cons_succ, List.getElem_cons_zero, Act.put, List.setIfInBounds_toArray, List.set_cons_zero, List.set_cons_succ]
    refine wpAnyH_take (i := 3) (v := .int .i64 n8) rfl (by kernel_rfl) (by kernel_rfl) (by kernel_rfl) (fun _ _ _ h => h) (Or.inl ⟨by rfl, (fun W _ => by go_simp)⟩) hS9 ?_
    simp only [List.getElem_toArray, List.getElem_cons_succ, List.getElem_cons_zero, Act.put, List.setIfInBounds_toArray, List.set_cons_zero, List.set_cons_succ]
    refine wpAnyH_take (i := 4) (v := .bool true) rfl (by kernel_rfl) (by kernel_rfl) (by kernel_rfl) (fun _ _ _ h => h) (Or.inl ⟨by rfl, (fun W _ => by go_simp)⟩) hS9 ?_
    simp only [List.getElem_toArray, List.getElem_cons_succ, List.getElem_cons_zero, Act.put, List.setIfInBounds_toArray, List.set_cons_zero, List.set_cons_succ]
    refine wpAnyH_take (i := 5) (v := .bool true) rfl (by kernel_rfl) (by kernel_rfl) (by kernel_rfl) (fun _ _ _ h => h) (Or.inl ⟨by rfl, (fun W _ => by go_simp)⟩) hS9 ?_
    simp only [List.getElem_toArray, List.getElem_cons_succ, List.getElem_cons_zero, Act.put, List.setIfInBounds_toArray, List.set_cons_zero, List.set_cons_succ]
    refine wpAnyH_take (i := 6) (v := .bool true) rfl (by kernel_rfl) (by kernel_rfl) (by kernel_rfl) (fun _ _ _ h => h) (Or.inl ⟨by rfl, (fun W _ => by go_simp)⟩) hS9 ?_
    simp only [List.getElem_toArray, List.getElem_cons_succ, List.getElem_cons_zero, Act.put, List.setIfInBounds_toArray, List.set_cons_zero, List.set_cons_succ]
    refine wpAnyH_take (i := 7) (v := .slice A8 156 c8) rfl (by kernel_rfl) (by kernel_rfl) (by kernel_rfl) (fun _ _ _ h => h) (Or.inl ⟨by rfl, (fun W _ => by go_simp)⟩) hS9 ?_
    simp only [List.getElem_toArray, List.getElem_cons_succ, List.getElem_cons_zero, Act.put, List.setIfInBounds_toArray, List.set_cons_zero, List.set_cons_succ]
    refine wpAnyH_take (i := 8) (v := .int .i64 156) rfl (by kernel_rfl) (by kernel_rfl) (by kernel_rfl) (fun _ _ _ h => h) (Or.inl ⟨by rfl, (fun W _ => by go_simp)⟩) hS9 ?_
    simp only [List.getElem_toArray, List.getElem_cons_succ, List.getElem_cons_zero, Act.put, List.setIfInBounds_toArray, List.set_cons_zero, List.set_cons_succ]
    refine wpAnyH_take (i := 9) (v := .bool true) rfl (by kernel_rfl) (by kernel_rfl) (by kernel_rfl) (fun _ _ _ h => h) (Or.inl ⟨by rfl, (fun W _ => by go_simp)⟩) hS9 ?_
    simp only [List.getElem_toArray, List.getElem_cons_succ, List.getElem_cons_zero, Act.put, List.setIfInBounds_toArray, List.set_cons_zero, List.set_cons_succ]
    refine wpAnyH_take (i := 10) (v := .bool true) rfl (by kernel_rfl) (by kernel_rfl) (by kernel_rfl) (fun _ _ _ h => h) (Or.inl ⟨by rfl, (fun W _ => by go_simp)⟩) hS9 ?_
    simp only [List.getElem_toArray, List.getElem_cons_succ, List.getElem_cons_zero, Act.put, List.setIfInBounds_toArray, List.set_cons_zero, List.set_cons_succ]
    refine wpAnyH_take (i := 11) (v := .bool true) rfl (by kernel_rfl) (by kernel_rfl) (by kernel_rfl) (fun _ _ _ h => h) (Or.inl ⟨by rfl, (fun W _ => by go_simp)⟩) hS9 ?_
    simp only [List.getElem_toArray, List.getElem_cons_succ, List.getElem_cons_zero, Act.put, List.setIfInBounds_toArray, List.set_cons_zero, List.set_cons_succ]
    refine wpAnyH_take (i := 12) (v := .slice A8 156 c8) rfl (by kernel_rfl) (by kernel_rfl) (by kernel_rfl) (fun _ _ _ h => h) (Or.inl ⟨by rfl, (fun W _ => by go_simp)⟩) hS9 ?_
    simp only [List.getElem_toArray, List.getElem_cons_succ, List.getElem_cons_zero, Act.put, List.setIfInBounds_toArray, List.set_cons_zero, List.set_cons_succ]
    refine wpAnyH_take (i := 13) (v := .slice a1 len1 cap1) rfl (by kernel_rfl) (by kernel_rfl) (by kernel_rfl) (fun _ _ _ h => h) (Or.inl ⟨by rfl, (fun W _ => by go_simp)⟩) hS9 ?_
    simp only [List.getElem_toArray, List.getElem_cons_succ, List.getElem_cons_zero, Act.put, List.setIfInBounds_toArray, List.set_cons_zero, List.set_cons_succ]
    refine wpAnyH_take (i := 14) (v := .int .i64 (len1 : Int)) rfl (by kernel_rfl) (by kernel_rfl) (by kernel_rfl) (fun _ _ _ h => h) (Or.inl ⟨by rfl, (fun W _ => by go_simp)⟩) hS9 ?_
    simp only [List.getElem_toArray, List.getElem_cons_succ, List.getElem_cons_zero, Act.put, List.setIfInBounds_toArray, List.set_cons_zero, List.set_cons_succ]
    refine wpAnyH_take (i := 15) (v := .slice A9 len1 c8) rfl (by kernel_rfl) (by kernel_rfl) (by kernel_rfl) (fun _ _ _ h => h) (Or.inl ⟨by rfl, (fun W hW => by have hcv := HSL.out W hW; go_simp)⟩) hS9 ?_
    simp only [List.getElem_toArray, List.getElem_cons_succ, List.getElem_cons_zero, Act.put, List.setIfInBounds_toArray, List.set_cons_zero, List.set_cons_succ]
    refine wpAnyH_take (i := 16) (v := .string (strOfNums zs)) rfl (by kernel_rfl) (by kernel_rfl) (by kernel_rfl) (fun _ _ _ h => h) (Or.inl ⟨by rfl, (fun W hW => by have hcv := HCD.out W hW; go_simp)⟩) hS9 ?_
    simp only [List.getElem_toArray, List.getElem_cons_succ, List.getElem_cons_zero, Act.put, List.setIfInBounds_toArray, List.set_cons_zero, List.set_cons_succ]
    refine wpAnyH_take (i := 17) (v := .slice a1 len1 cap1) rfl (by kernel_rfl) (by kernel_rfl) (by kernel_rfl) (fun _ _ _ h => h) (Or.inl ⟨by rfl, (fun W _ => by go_simp)⟩) hS9 ?_
    simp only [List.getElem_toArray, List.getElem_cons_succ, List.getElem_cons_zero, Act.put, List.setIfInBounds_toArray, List.set_cons_zero, List.set_cons_succ]
    refine wpAnyH_take (i := 18) (v := .string (strOfNums zs)) rfl (by kernel_rfl) (by kernel_rfl) (by kernel_rfl) (fun _ _ _ h => h) (Or.inl ⟨by rfl, (fun W hW => by have hcv := HCB.out W hW; go_simp)⟩) hS9 ?_
    simp only [List.getElem_toArray, List.getElem_cons_succ, List.getElem_cons_zero, Act.put, List.setIfInBounds_toArray, List.set_cons_zero, List.set_cons_succ]
    refine wpAnyH_take (i := 19) (v := .bool true) rfl (by kernel_rfl) (by kernel_rfl) (by kernel_rfl) (fun _ _ _ h => h) (Or.inl ⟨by rfl, (fun W _ => by go_simp)⟩) hS9 ?_
    simp only [List.getElem_toArray, List.getElem_cons_succ, List.getElem_cons_zero, Act.put, List.setIfInBounds_toArray, List.set_cons_zero, List.set_cons_succ]
    refine wpAnyH_take (i := 20) (v := .bool true) rfl (by kernel_rfl) (by kernel_rfl) (by kernel_rfl) (fun _ _ _ h => h) (Or.inl ⟨by rfl, (fun W _ => by go_simp)⟩) hS9 ?_
    simp only [List.getElem_toArray, List.getElem_cons_succ, List.getElem_cons_zero, Act.put, List.setIfInBounds_toArray, List.set_cons_zero, List.set_cons_succ]
    refine wpAnyH_take (i := 21) (v := .bool true) rfl (by kernel_rfl) (by kernel_rfl) (by kernel_rfl) (fun _ _ _ h => h) (Or.inl ⟨by rfl, (fun W _ => by go_simp)⟩) hS9 ?_
    simp only [List.getElem_toArray, List.getElem_cons_succ, List.getElem_cons_zero, Act.put, List.setIfInBounds_toArray, List.set_cons_zero, List.set_cons_succ]
    refine wpAnyH_done (by kernel_rfl) ?_ _
    clear hS9 HSL HCD HCB b9
    go_wp2
    go_ret
    exact ⟨rfl, T9⟩
  · have hne : (errN a0 len1 != 0) = true := by simpa using her
    have HPF := Lib.hid (fun A2 c2 w2 (hx2 : Row w2 A2 len1 zs) => cput_any a0 A2 len1 c2 zs w2 hn hx2)
    have HQF := Lib.hid (fun w3 (hx3 : Row w3 a1 len1 zs) => rcput_any a0 a1 len1 cap1 zs w3 hx3)
    generalize errN a0 len1 = er at *
    generalize outL a0 zs len1 = os at *
    go_enter Try.func3, Try.ntmps3
    go_wp2_with (first
      | (go_at_call 6; refine (alive_any _).mono ?_; rintro e w1 ⟨rfl, H1⟩; have hr1 := row_below H1 HR.out; have hn1 := own_nil w1 w1.heap.size)
      | (at_builtin; (with_reducible refine wpList_app rfl _ _ rfl w1.heap.size (.slice none 0 0) 0 [] rfl hn1 _ _ _ zs rfl hr1 (row_none hr1) (by omega) (Nat.le_refl _) ?_); intro v2 w2 o2 g2; rw [Nat.zero_add, List.nil_append] at o2; have b2 := below_own (Below.refl _ w1) hn1 g2 (Nat.le_refl _) (Nat.le_refl _); obtain ⟨A2, c2, rfl, hc2, hx2, _⟩ := o2.form; have HP := HPF.out A2 c2 w2 hx2; have T2 := belowThen H1 b2; clear o2 g2 hn1 hr1 hx2)
      | (go_at_call 7; (with_reducible refine HP.mono ?_); rintro e w3 ⟨v3, rfl, o3, b3⟩; obtain ⟨A3, c3, rfl, hc3, hx3, _⟩ := o3.form; have T3 := belowThen T2 b3; have HQ := HQF.out w3 (row_below T3 HR.out); clear o3 HP)
      | (go_at_call 8; (with_reducible refine HQ.mono ?_); rintro e w4 ⟨v4, rfl, o4, b4⟩; obtain ⟨A4, c4, rfl, hc4, hx4, _⟩ := o4.form; have T4 := belowThen T3 b4; have HG := Lib.hid (cget_any a2 len2 cap2 cs w4 (row_below T4 HC.out)); clear o4 HQ)
      | (go_at_call 9; (with_reducible refine HG.out.mono ?_); rintro e w5 ⟨n5, v5, rs5, k5, rfl, hk5, o5, b5⟩; obtain ⟨A5, c5, rfl, hc5, hx5, _⟩ := o5.form; have T5 := belowThen T4 b5; have HK := Lib.hid hk5; have HI := Lib.hid (rcget_any a2 len2 cap2 cs w5 (row_below T5 HC.out) (by omega)); clear o5 HG hk5)
      | (go_at_call 10; (with_reducible refine HI.out.mono ?_); rintro e w6 ⟨n6, v6, rs6, k6, rfl, hk6, o6, b6⟩; obtain ⟨rfl, rfl, rfl⟩ := HK.out.same hk6; obtain ⟨A6, c6, rfl, hc6, hx6, _⟩ := o6.form; have T6 := belowThen T5 b6; have hv3 := conv_row (c := c3) (row_below (belowThen b4 (belowThen b5 b6)) hx3); have hv4 := conv_row (c := c4) (row_below (belowThen b5 b6) hx4); have hv5 := conv_row (c := c5) (row_below b6 hx5); have hv6 := conv_row (c := c6) hx6; clear o6 HI hk6 HK)
      | (go_at_call 11; (with_reducible refine (lnum_any _ _).mono ?_); rintro e w7 ⟨rfl, rfl⟩))
    go_ret
    exact ⟨rfl, T6⟩

/-! ### THE ROW's STEP: WRITTEN OUT: LEAVE IT -/
set_option maxRecDepth 100000 in
theorem lifted (os : Os) (started : os.Started) (H : Type) (enc : TypeId × Value → H) :
    ReturnsInHanded {} Try.checked os 3 .any (Rows.cellTellsSpec.pre6 enc Try.prog Try.f3 Rows.cellTellsRow.domain false) (Rows.cellTellsSpec.post enc Try.prog Try.f3 false true false false) := by
  refine returnsInHanded_of_change (C := Try.checked) own started (by kernel_rfl) Try.func3
    (ChangeSpec.witness6 (enc := enc) (C := Try.checked) false ⟨#[], #[.int .i64 0, .slice none 0 0, .slice none 0 0], []⟩ 8 (by kernel_rfl) (by kernel_rfl) (by kernel_rfl) (by kernel_rfl)) ?_
  intro W base args ds gs before hval0 hW hcnd _
  have hval : ∀ (j : Nat) t v, Try.f3.params[j]? = some t → args[j]? = some v → Value.okWide Try.prog W .any base t v := hval0
  have hW' := hW
  obtain ⟨p, q, hA0, hV, rfl, hfz, hnd⟩ := hW
  have hA : DataW.TrodAll enc Try.prog W 0 (fun _ => true) true Try.f3.params.toList args.toList ds p := hA0
  rw [Try.params3] at hA hval
  obtain ⟨v0, vs0, d0, ds0, p0, q0, hargs, rfl, rfl, h0, r0⟩ := trodAll_cons hA
  obtain ⟨v1, vs1, d1, ds1, p1, q1, rfl, rfl, rfl, h1, r1⟩ := trodAll_cons r0
  obtain ⟨v2, vs2, d2, ds2, p2, q2, rfl, rfl, rfl, h2, r2⟩ := trodAll_cons r1
  obtain ⟨rfl, rfl, rfl⟩ := trodAll_nil r2
  obtain rfl : args = #[v0, v1, v2] := by cases args; simp_all
  obtain ⟨rfl, rfl⟩ := trodVars_none hV
  obtain ⟨a0, rfl, rfl, rfl, w0⟩ := open_int Try.underlying3 (hval 0 3 v0 rfl rfl) h0
  obtain ⟨a1, len1, cap1, rfl⟩ := okWide_slice Try.underlying22 (hval 1 22 v1 rfl rfl)
  have k1 := h1
  have lt1 : ∀ x ∈ p1, x.block < W.heap.size := by obtain ⟨m, hm⟩ := k1; exact DataW.trod_lt m _ _ _ hm
  obtain ⟨z1, w1⟩ : ∃ zs, IsRow .u8 W a1 len1 cap1 zs := by
    obtain ⟨fuel, hf⟩ := h1
    rcases open_ints Try.underlying22 Try.underlying5 (by kernel_rfl) hf with ⟨hcs, _⟩ | ⟨x, l, c, zs, hcs, _, hl, hm, hz, _, hcell, hwz⟩
    · simp [Value.cells] at hcs
      obtain ⟨rfl, rfl, rfl⟩ := hcs
      exact ⟨[], .inl ⟨rfl, rfl, rfl, rfl⟩⟩
    · simp [Value.cells] at hcs
      obtain ⟨rfl, rfl, rfl⟩ := hcs
      exact ⟨zs, .inr ⟨_, rfl, hl, hm, by simpa using hz, hcell, hwz⟩⟩
  obtain ⟨a2, len2, cap2, rfl⟩ := okWide_slice Try.underlying22 (hval 2 22 v2 rfl rfl)
  have k2 := h2
  have lt2 : ∀ x ∈ p2, x.block < W.heap.size := by obtain ⟨m, hm⟩ := k2; exact DataW.trod_lt m _ _ _ hm
  obtain ⟨z2, w2⟩ : ∃ zs, IsRow .u8 W a2 len2 cap2 zs := by
    obtain ⟨fuel, hf⟩ := h2
    rcases open_ints Try.underlying22 Try.underlying5 (by kernel_rfl) hf with ⟨hcs, _⟩ | ⟨x, l, c, zs, hcs, _, hl, hm, hz, _, hcell, hwz⟩
    · simp [Value.cells] at hcs
      obtain ⟨rfl, rfl, rfl⟩ := hcs
      exact ⟨[], .inl ⟨rfl, rfl, rfl, rfl⟩⟩
    · simp [Value.cells] at hcs
      obtain ⟨rfl, rfl, rfl⟩ := hcs
      exact ⟨zs, .inr ⟨_, rfl, hl, hm, by simpa using hz, hcell, hwz⟩⟩
  clear hA0 hval0
  refine (walk a0 a1 len1 cap1 z1 a2 len2 cap2 z2 W w0 w1 w2).mono fun e W' ⟨he, bel⟩ => ?_
  subst he
  exact ⟨_, rfl, _, _, _, [], _, [], hW', trodAll_mk1 (shut_bool Try.underlying4 _), (trodAll_cons_mk (shut_int Try.underlying3 w0) (trodAll_cons_mk (Below.trod laidOut (by kernel_rfl) (of_decide_eq_true (by kernel_rfl)) k1 bel lt1) (trodAll_cons_mk (Below.trod laidOut (by kernel_rfl) (of_decide_eq_true (by kernel_rfl)) k2 bel lt2) trodAll_mk0))), rfl, bel.frame _, fun h => by cases h⟩

theorem over : Rows.cellTellsRow.holds Try.pinned (OpenSpec.ofChange Rows.cellTellsSpec) :=
  OpenClaim.holds_of_wide 3 Try.f3 rfl rfl rfl rfl rfl rfl rfl ⟨rfl, rfl, rfl, rfl, rfl⟩ rfl rfl rfl rfl rfl (by kernel_rfl) Try.func3 (by kernel_rfl)
    (of_decide_eq_true (by kernel_rfl)) (by unfold Func.isWrapper; first | (rw [if_pos (by decide +kernel)]; kernel_rfl) | (rw [if_neg (by decide +kernel)]; exact ⟨rfl, rfl⟩))
    (fun os started H enc _ => lifted os started H enc)

/-- ████ THE STATEMENT ████ -/
theorem proved : Rows.CellTellsSaid := over
end Go.Proofs.Ytdlbdhamlmladaa.cellTells
namespace Go.Proofs.Ytdlbdhamlmladaa
theorem CellTells_holds : Rows.CellTellsSaid := cellTells.proved
#print axioms CellTells_holds
end Go.Proofs.Ytdlbdhamlmladaa
