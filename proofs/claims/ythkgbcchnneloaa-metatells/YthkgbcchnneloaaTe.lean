/-
  The walk of the law MetaTells: what may be kept, which bytes it is, what any bytes say; conditions: none.
-/
import Derived.Test.YthkgbcchnneloaaZe
import Derived.Deep.RegionHeld3
import Derived.Deep.Cut
namespace Go.Proofs.Ythkgbcchnneloaa.metaTells
open Go.RowKit
set_option linter.unusedVariables false
set_option linter.unusedSimpArgs false

set_option maxRecDepth 100000 in
set_option maxHeartbeats 8000000 in
theorem walk (m : Mt) (a1 : Option Addr) (len1 cap1 : Nat) (z1 : List Int) (w : World) (hm : m.Ok) (hr : Row w a1 len1 z1) (hc : len1 ≤ cap1) :
    Calls Try.prog 3 #[.agg m.cells, .slice a1 len1 cap1] w fun e w' => e = .returned (.bool true) ∧ Below w.heap.size w w' := by
  have hz27 := zero27_run
  have C0 : Hid (Below w.heap.size w (w.alloc (.cells m.cells 27))) := Lib.hid ((Below.refl _ _).alloc (Nat.le_refl _) _)
  have H0 := Lib.hid (has_new w 27 m.cells)
  have HLV := Lib.hid (live_any (w.alloc (.cells m.cells 27)))
  have HM := Lib.hid hm
  have HRW := Lib.hid hr
  by_cases i0 : (400 : Int) < (len1 : Int)
  · clear hm hr
    go_enter Try.func3, Try.ntmps3
    go_wp2_with (first
      | (go_at_call 6; (with_reducible refine HLV.out.mono ?_); rintro e w1 ⟨rfl, b1⟩; clear HLV; have C1 := Lib.hid (C0.out.trans (b1.mono C0.out.size)); clear b1))
    go_ret
    exact ⟨rfl, C1.out⟩
  have i1 : ¬ (400 : Int) < (len1 : Int) := i0
  have HRA := Lib.hid (fun (A : Option Addr) (c : Nat) (W : World) (h1 : Row W A len1 z1) (h2 : len1 ≤ c) => show Calls Try.prog 9 #[.slice A len1 c] W (ReadsIs (readM z1) (readE z1) W) from read_any A len1 c z1 W h1 h2 (by omega))
  have HRB := Lib.hid (fun (A : Option Addr) (c : Nat) (W : World) (h1 : Row W A len1 z1) (h2 : len1 ≤ c) => show Calls Try.prog 10 #[.slice A len1 c] W (ReadsIs (readM z1) (readE z1) W) from docRead_any A len1 c z1 W h1 h2 (by omega))
  have HOKR := Lib.hid (readM_ok hr.2.1)
  generalize readM z1 = RM at *
  generalize readE z1 = EN at *
  have HDR := Lib.hid (fun W => docRight_any m W hm)
  have HPR := Lib.hid (fun W => right_any m W hm)
  have HPB := Lib.hid (fun W => mbytes_any m W hm)
  have HDB := Lib.hid (fun W => docBytes_any m W hm)
  obtain ⟨X, hX⟩ : ∃ X, rightB m = X := ⟨_, rfl⟩
  obtain ⟨BY, hBY⟩ : ∃ BY, bytesM m = BY := ⟨_, rfl⟩
  obtain ⟨LB, hLB⟩ : ∃ LB, BY.length = LB := ⟨_, rfl⟩
  have HE0 : Hid (X = false → LB = 0) := Lib.hid (fun h => by rw [← hLB, ← hBY]; unfold bytesM; rw [if_neg (by rw [hX, h]; simp)]; rfl)
  have HE1 : Hid (X = true → LB = 128 ∧ BY = metaL m ∧ rightB m = true) := Lib.hid (fun h => by
    have e : BY = metaL m := by rw [← hBY]; unfold bytesM; rw [if_pos (by rw [hX, h])]
    exact ⟨by rw [← hLB, e, meta_len], e, by rw [hX, h]⟩)
  have HLE : Hid (LB ≤ 128) := Lib.hid (by
    cases h : X with
    | false => rw [HE0.out h]; omega
    | true => rw [(HE1.out h).1]; omega)
  rw [hX] at HDR HPR
  rw [hBY, hLB] at HPB HDB
  have i2 : ¬ (156 : Int) < (LB : Int) := by have := HLE.out; omega
  have i3 : decide ((156 : Int) < (LB : Int)) = false := decide_eq_false i2
  clear hX hBY hLB hm hr
  go_enter Try.func3, Try.ntmps3
  go_upto_region 8 with (first
    | (go_at_call 6; (with_reducible refine HLV.out.mono ?_); rintro e w1 ⟨rfl, b1⟩; clear HLV; have H1 := Lib.hid (H0.out.kept b1); have C1 := Lib.hid (C0.out.trans (b1.mono C0.out.size)); clear b1; have L1 := Lib.hid (ld27 H1.out HM.out); have HD := Lib.hid (HDR.out w1))
    | (refine wpList_ld 27 _ rfl _ _ L1.out rfl rfl ?_)
    | (go_at_call 7; (with_reducible refine HD.out.mono ?_); rintro e w2 ⟨rfl, b2⟩; clear HD L1; have H2 := Lib.hid (H1.out.kept b2); have C2 := Lib.hid (C1.out.trans (b2.mono C1.out.size)); clear b2; have L2 := Lib.hid (ld27 H2.out HM.out); have HB := Lib.hid (HPB.out w2))
    | (refine wpList_ld 27 _ rfl _ _ L2.out rfl rfl ?_)
    | (go_at_call 8; (with_reducible refine HB.out.mono ?_); rintro e w3 ⟨v3, rfl, o3, b3⟩; clear HB L2; have H3 := Lib.hid (H2.out.kept b3); have C3 := Lib.hid (C2.out.trans (b3.mono C2.out.size)); obtain ⟨A3, c3, rfl, hc3, r3, _⟩ := o3.form; clear o3 b3; have R3 := Lib.hid r3; clear r3; have rb3 := row_lt HRW.out (Nat.le_refl _) C3.out; have n3 := own_nil w3 w3.heap.size)
    | (at_builtin; (with_reducible refine wpList_app rfl _ _ rfl w3.heap.size (.slice none 0 0) 0 [] rfl n3 a1 len1 cap1 z1 rfl rb3 (row_none rb3) (by omega) (Nat.le_refl _) ?_); intro v4 w4 o4 g4; have e4 := below_own (Below.refl _ w3) n3 g4 (Nat.le_refl _) (Nat.le_refl _); rw [Nat.zero_add, List.nil_append] at o4; obtain ⟨A4, c4, rfl, hc4, r4, _⟩ := o4.form; have H4 := Lib.hid (H3.out.kept e4); have C4 := Lib.hid (C3.out.trans (e4.mono C3.out.size)); have R4 := Lib.hid (row_below e4 R3.out); have HR := Lib.hid (HRA.out A4 c4 w4 r4 hc4); clear o4 g4 e4 r4 rb3 n3)
    | (go_at_call 9; (with_reducible refine HR.out.mono ?_); rintro e w5 ⟨rfl, b5⟩; clear HR; have H5 := Lib.hid (H4.out.kept b5); have C5 := Lib.hid (C4.out.trans (b5.mono C4.out.size)); have R5 := Lib.hid (row_below b5 R4.out); clear b5; have hne := has_new w5 27 zeroT.cells)
    | (refine wpList_row rfl 27 _ _ rfl w5.heap.size RM.cells rfl rfl 27 _ hne (size27 HOKR.out) (old27 zeroT_ok HOKR.out) (mt_all _) ?_; intro w6 hs6 on6; have C6 := Lib.hid ((C5.out.alloc C5.out.size (.cells zeroT.cells 27)).trans (on6.to_below (C5.out.alloc C5.out.size (.cells zeroT.cells 27)).size (fun b e => by have := C5.out.size; omega))); have H6 := Lib.hid (Has.only (H5.out.more (.cells zeroT.cells 27)) on6 (by have := H5.out.size; omega)); have R6 := Lib.hid (row_under (row_below ((Below.refl _ _).alloc (Nat.le_refl _) (.cells zeroT.cells 27)) R5.out) (row_lies R5.out) on6 (fun b e => by omega)); have Y6 := Lib.hid hs6; clear hs6 on6 hne; have HRD := Lib.hid (HRB.out a1 cap1 w6 (row_lt HRW.out (Nat.le_refl _) C6.out) hc))
    | (go_at_call 10; (with_reducible refine HRD.out.mono ?_); rintro e w7 ⟨rfl, b7⟩; clear HRD; have H7 := Lib.hid (H6.out.kept b7); have C7 := Lib.hid (C6.out.trans (b7.mono C6.out.size)); have R7 := Lib.hid (row_below b7 R6.out); have Y7 := Lib.hid (Y6.out.kept b7); clear b7; have hne7 := has_new w7 27 zeroT.cells)
    | (refine wpList_row rfl 27 _ _ rfl w7.heap.size RM.cells rfl rfl 27 _ hne7 (size27 HOKR.out) (old27 zeroT_ok HOKR.out) (mt_all _) ?_; intro w8 hs8 on8; have C8 := Lib.hid ((C7.out.alloc C7.out.size (.cells zeroT.cells 27)).trans (on8.to_below (C7.out.alloc C7.out.size (.cells zeroT.cells 27)).size (fun b e => by have := C7.out.size; omega))); have H8 := Lib.hid (Has.only (H7.out.more (.cells zeroT.cells 27)) on8 (by have := H7.out.size; omega)); have Y8 := Lib.hid (Has.only (Y7.out.more (.cells zeroT.cells 27)) on8 (by have := Y7.out.size; omega)); have R8 := Lib.hid (row_under (row_below ((Below.refl _ _).alloc (Nat.le_refl _) (.cells zeroT.cells 27)) R7.out) (row_lies R7.out) on8 (fun b e => by omega)); have Z8 := Lib.hid hs8; clear hs8 on8 hne7))
  have bd : Below w8.heap.size w8 w8.drew := (Below.refl _ _).drew
  have SM := Lib.hid (fun (W : World) (hW : Below w8.drew.heap.size w8.drew W) => ld27 ((H8.out.kept bd).kept hW) HM.out)
  have SY := Lib.hid (fun (W : World) (hW : Below w8.drew.heap.size w8.drew W) => ld27 ((Y8.out.kept bd).kept hW) HOKR.out)
  have SZ := Lib.hid (fun (W : World) (hW : Below w8.drew.heap.size w8.drew W) => ld27 ((Z8.out.kept bd).kept hW) HOKR.out)
  have RD := Lib.hid (row_below bd R8.out)
  have HV3 := Lib.hid (fun W (hW : Below w8.drew.heap.size w8.drew W) => conv_row (c := c3) (row_below hW RD.out))
  have HD8 := Lib.hid (H8.out.kept bd)
  have CD := Lib.hid (C8.out.trans (bd.mono C8.out.size))
  have HR8 := Lib.hid (HPR.out w8.drew)
  have HS0 := Lib.hid (Below.refl w8.drew.heap.size w8.drew)
  clear bd H0 C0 H1 C1 H2 C2 H3 C3 R3 H4 C4 R4 H5 C5 R5 C6 H6 R6 Y6 H7 C7 R7 Y7
  refine wp_region_held_drew (S := fun W => Below w8.drew.heap.size w8.drew W) (by kernel_rfl) HS0.out ?_
  intro _
  refine wpAnyH_take (i := 0) (v := .agg m.cells) rfl (by kernel_rfl) (by kernel_rfl) (by kernel_rfl) (fun _ _ _ h => h) (yields_ld (by rfl) 27 (.tmp 2) rfl _ _ (fun W hW => SM.out W hW) rfl) HS0.out ?_
  simp only [List.getElem_toArray, List.getElem_cons_succ, List.getElem_cons_zero, Act.put, List.setIfInBounds_toArray, List.set_cons_zero, List.set_cons_succ]
  refine wpAnyH_take (i := 2) (v := .bool X) rfl (by kernel_rfl) (by kernel_rfl) (by kernel_rfl) (fun _ _ _ h => h) (Or.inl ⟨by rfl, (fun W _ => by go_simp)⟩) HS0.out ?_
  simp only [List.getElem_toArray, List.getElem_cons_succ, List.getElem_cons_zero, Act.put, List.setIfInBounds_toArray, List.set_cons_zero, List.set_cons_succ]
  refine wpAnyH_ready (rs := [1]) (by kernel_rfl) (by simp) ?_
  refine AllReadyH.cons rfl (fun K hK => ?_) AllReadyH.nil
  go_simp
  refine (HR8.out).mono ?_
  rintro e x1 ⟨rfl, f1⟩; have HS1 := Lib.hid (show Below w8.drew.heap.size w8.drew x1 from f1); clear f1
  refine hK.out _ _ HS1.out (fun _ => ?_)
  clear hK K
  refine wpAnyH_take (i := 3) (v := .bool false) rfl (by kernel_rfl) (by kernel_rfl) (by kernel_rfl) (fun _ _ _ h => h) (Or.inl ⟨by rfl, (fun W _ => by go_simp)⟩) HS1.out ?_
  simp only [List.getElem_toArray, List.getElem_cons_succ, List.getElem_cons_zero, Act.put, List.setIfInBounds_toArray, List.set_cons_zero, List.set_cons_succ]
  refine wpAnyH_take (i := 4) (v := .bool false) rfl (by kernel_rfl) (by kernel_rfl) (by kernel_rfl) (fun _ _ _ h => h) (Or.inl ⟨by rfl, (fun W _ => by go_simp)⟩) HS1.out ?_
  simp only [List.getElem_toArray, List.getElem_cons_succ, List.getElem_cons_zero, Act.put, List.setIfInBounds_toArray, List.set_cons_zero, List.set_cons_succ]
  refine wpAnyH_take (i := 5) (v := .slice A3 LB c3) rfl (by kernel_rfl) (by kernel_rfl) (by kernel_rfl) (fun _ _ _ h => h) (Or.inl ⟨by rfl, (fun W _ => by go_simp)⟩) HS1.out ?_
  simp only [List.getElem_toArray, List.getElem_cons_succ, List.getElem_cons_zero, Act.put, List.setIfInBounds_toArray, List.set_cons_zero, List.set_cons_succ]
  refine wpAnyH_take (i := 6) (v := .string (strOfNums BY)) rfl (by kernel_rfl) (by kernel_rfl) (by kernel_rfl) (fun _ _ _ h => h) (Or.inl ⟨by rfl, (fun W hW => by have hcv := HV3.out W hW; go_simp)⟩) HS1.out ?_
  simp only [List.getElem_toArray, List.getElem_cons_succ, List.getElem_cons_zero, Act.put, List.setIfInBounds_toArray, List.set_cons_zero, List.set_cons_succ]
  refine wpAnyH_take (i := 7) (v := .agg m.cells) rfl (by kernel_rfl) (by kernel_rfl) (by kernel_rfl) (fun _ _ _ h => h) (yields_ld (by rfl) 27 (.tmp 2) rfl _ _ (fun W hW => SM.out W hW) rfl) HS1.out ?_
  simp only [List.getElem_toArray, List.getElem_cons_succ, List.getElem_cons_zero, Act.put, List.setIfInBounds_toArray, List.set_cons_zero, List.set_cons_succ]
  refine wpAnyH_ready (rs := [8]) (by kernel_rfl) (by simp) ?_
  refine AllReadyH.cons rfl (fun K hK => ?_) AllReadyH.nil
  go_simp
  refine (HDB.out x1).mono ?_
  rintro e x2 ⟨y2, rfl, p2, f2⟩
  obtain ⟨B2, d2, rfl, _, r2, _⟩ := p2.form
  have HS2 := Lib.hid (show Below w8.drew.heap.size w8.drew x2 from HS1.out.trans (f2.mono HS1.out.size))
  have HR2 := Lib.hid r2
  clear p2 f2 r2
  refine hK.out _ _ HS2.out (fun _ => ?_)
  clear hK K
  have HS3 := Lib.hid (Below.refl x2.heap.size x2)
  refine wpAnyH_strong (S' := fun W => Below x2.heap.size x2 W) (fun W h => HS2.out.trans (h.mono HS2.out.size)) _ _ _ _ ?_
  have HV4 := Lib.hid (fun W (hW : Below x2.heap.size x2 W) => conv_row (c := d2) (row_below hW HR2.out))
  have HWW := Lib.hid (fun W (hW : Below x2.heap.size x2 W) => show Below w8.drew.heap.size w8.drew W from HS2.out.trans (hW.mono HS2.out.size))
  refine wpAnyH_take (i := 9) (v := .string (strOfNums BY)) rfl (by kernel_rfl) (by kernel_rfl) (by kernel_rfl) (fun _ _ _ h => h) (Or.inl ⟨by rfl, (fun W hW => by have hcv := HV4.out W hW; go_simp)⟩) HS3.out ?_
  simp only [List.getElem_toArray, List.getElem_cons_succ, List.getElem_cons_zero, Act.put, List.setIfInBounds_toArray, List.set_cons_zero, List.set_cons_succ]
  refine wpAnyH_take (i := 10) (v := .bool false) rfl (by kernel_rfl) (by kernel_rfl) (by kernel_rfl) (fun _ _ _ h => h) (Or.inl ⟨by rfl, (fun W _ => by go_simp)⟩) HS3.out ?_
  simp only [List.getElem_toArray, List.getElem_cons_succ, List.getElem_cons_zero, Act.put, List.setIfInBounds_toArray, List.set_cons_zero, List.set_cons_succ]
  refine wpAnyH_take (i := 11) (v := .bool false) rfl (by kernel_rfl) (by kernel_rfl) (by kernel_rfl) (fun _ _ _ h => h) (Or.inl ⟨by rfl, (fun W _ => by go_simp)⟩) HS3.out ?_
  simp only [List.getElem_toArray, List.getElem_cons_succ, List.getElem_cons_zero, Act.put, List.setIfInBounds_toArray, List.set_cons_zero, List.set_cons_succ]
  refine wpAnyH_take (i := 12) (v := .bool false) rfl (by kernel_rfl) (by kernel_rfl) (by kernel_rfl) (fun _ _ _ h => h) (Or.inl ⟨by rfl, (fun W _ => by go_simp)⟩) HS3.out ?_
  simp only [List.getElem_toArray, List.getElem_cons_succ, List.getElem_cons_zero, Act.put, List.setIfInBounds_toArray, List.set_cons_zero, List.set_cons_succ]
  refine wpAnyH_take (i := 13) (v := .agg RM.cells) rfl (by kernel_rfl) (by kernel_rfl) (by kernel_rfl) (fun _ _ _ h => h) (yields_ld (by rfl) 27 (.tmp 8) rfl _ _ (fun W hW => SY.out W (HWW.out W hW)) rfl) HS3.out ?_
  simp only [List.getElem_toArray, List.getElem_cons_succ, List.getElem_cons_zero, Act.put, List.setIfInBounds_toArray, List.set_cons_zero, List.set_cons_succ]
  refine wpAnyH_take (i := 14) (v := .agg RM.cells) rfl (by kernel_rfl) (by kernel_rfl) (by kernel_rfl) (fun _ _ _ h => h) (yields_ld (by rfl) 27 (.tmp 10) rfl _ _ (fun W hW => SZ.out W (HWW.out W hW)) rfl) HS3.out ?_
  simp only [List.getElem_toArray, List.getElem_cons_succ, List.getElem_cons_zero, Act.put, List.setIfInBounds_toArray, List.set_cons_zero, List.set_cons_succ]
  refine wpAnyH_take (i := 15) (v := .bool false) rfl (by kernel_rfl) (by kernel_rfl) (by kernel_rfl) (fun _ _ _ h => h) (yields_neq27 (by rfl) (.tmp 51) (.tmp 52) rfl RM rfl rfl HOKR.out) HS3.out ?_
  simp only [List.getElem_toArray, List.getElem_cons_succ, List.getElem_cons_zero, Act.put, List.setIfInBounds_toArray, List.set_cons_zero, List.set_cons_succ]
  refine wpAnyH_take (i := 16) (v := .bool false) rfl (by kernel_rfl) (by kernel_rfl) (by kernel_rfl) (fun _ _ _ h => h) (Or.inl ⟨by rfl, (fun W _ => by go_simp)⟩) HS3.out ?_
  simp only [List.getElem_toArray, List.getElem_cons_succ, List.getElem_cons_zero, Act.put, List.setIfInBounds_toArray, List.set_cons_zero, List.set_cons_succ]
  refine wpAnyH_take (i := 17) (v := .bool false) rfl (by kernel_rfl) (by kernel_rfl) (by kernel_rfl) (fun _ _ _ h => h) (Or.inl ⟨by rfl, (fun W _ => by go_simp)⟩) HS3.out ?_
  simp only [List.getElem_toArray, List.getElem_cons_succ, List.getElem_cons_zero, Act.put, List.setIfInBounds_toArray, List.set_cons_zero, List.set_cons_succ]
  refine wpAnyH_take (i := 18) (v := .int .i64 EN) rfl (by kernel_rfl) (by kernel_rfl) (by kernel_rfl) (fun _ _ _ h => h) (Or.inl ⟨by rfl, (fun W _ => by go_simp)⟩) HS3.out ?_
  simp only [List.getElem_toArray, List.getElem_cons_succ, List.getElem_cons_zero, Act.put, List.setIfInBounds_toArray, List.set_cons_zero, List.set_cons_succ]
  refine wpAnyH_take (i := 20) (v := .int .i64 EN) rfl (by kernel_rfl) (by kernel_rfl) (by kernel_rfl) (fun _ _ _ h => h) (Or.inl ⟨by rfl, (fun W _ => by go_simp)⟩) HS3.out ?_
  simp only [List.getElem_toArray, List.getElem_cons_succ, List.getElem_cons_zero, Act.put, List.setIfInBounds_toArray, List.set_cons_zero, List.set_cons_succ]
  refine wpAnyH_ready (rs := [19]) (by kernel_rfl) (by simp) ?_
  refine AllReadyH.cons rfl (fun K hK => ?_) AllReadyH.nil
  go_simp
  refine (lnum_any _ _).mono ?_
  rintro e x3 ⟨rfl, rfl⟩
  refine hK.out _ _ HS3.out (fun _ => ?_)
  clear hK K
  refine wpAnyH_take (i := 21) (v := .bool false) rfl (by kernel_rfl) (by kernel_rfl) (by kernel_rfl) (fun _ _ _ h => h) (Or.inl ⟨by rfl, (fun W _ => by go_simp)⟩) HS3.out ?_
  simp only [List.getElem_toArray, List.getElem_cons_succ, List.getElem_cons_zero, Act.put, List.setIfInBounds_toArray, List.set_cons_zero, List.set_cons_succ]
  refine wpAnyH_take (i := 22) (v := .bool false) rfl (by kernel_rfl) (by kernel_rfl) (by kernel_rfl) (fun _ _ _ h => h) (Or.inl ⟨by rfl, (fun W _ => by go_simp)⟩) HS3.out ?_
  simp only [List.getElem_toArray, List.getElem_cons_succ, List.getElem_cons_zero, Act.put, List.setIfInBounds_toArray, List.set_cons_zero, List.set_cons_succ]
  refine wpAnyH_take (i := 23) (v := .bool false) rfl (by kernel_rfl) (by kernel_rfl) (by kernel_rfl) (fun _ _ _ h => h) (Or.inl ⟨by rfl, (fun W _ => by go_simp)⟩) HS3.out ?_
  simp only [List.getElem_toArray, List.getElem_cons_succ, List.getElem_cons_zero, Act.put, List.setIfInBounds_toArray, List.set_cons_zero, List.set_cons_succ]
  refine wpAnyH_take (i := 24) (v := .slice A3 LB c3) rfl (by kernel_rfl) (by kernel_rfl) (by kernel_rfl) (fun _ _ _ h => h) (Or.inl ⟨by rfl, (fun W _ => by go_simp)⟩) HS3.out ?_
  simp only [List.getElem_toArray, List.getElem_cons_succ, List.getElem_cons_zero, Act.put, List.setIfInBounds_toArray, List.set_cons_zero, List.set_cons_succ]
  refine wpAnyH_take (i := 25) (v := .int .i64 (LB : Int)) rfl (by kernel_rfl) (by kernel_rfl) (by kernel_rfl) (fun _ _ _ h => h) (Or.inl ⟨by rfl, (fun W _ => by go_simp)⟩) HS3.out ?_
  simp only [List.getElem_toArray, List.getElem_cons_succ, List.getElem_cons_zero, Act.put, List.setIfInBounds_toArray, List.set_cons_zero, List.set_cons_succ]
  refine wpAnyH_take (i := 26) (v := .bool false) rfl (by kernel_rfl) (by kernel_rfl) (by kernel_rfl) (fun _ _ _ h => h) (Or.inl ⟨by rfl, (fun W _ => by go_simp)⟩) HS3.out ?_
  simp only [List.getElem_toArray, List.getElem_cons_succ, List.getElem_cons_zero, Act.put, List.setIfInBounds_toArray, List.set_cons_zero, List.set_cons_succ]
  refine wpAnyH_take (i := 27) (v := .bool false) rfl (by kernel_rfl) (by kernel_rfl) (by kernel_rfl) (fun _ _ _ h => h) (Or.inl ⟨by rfl, (fun W _ => by go_simp)⟩) HS3.out ?_
  simp only [List.getElem_toArray, List.getElem_cons_succ, List.getElem_cons_zero, Act.put, List.setIfInBounds_toArray, List.set_cons_zero, List.set_cons_succ]
  refine wpAnyH_done (by kernel_rfl) ?_ _
  have CX := Lib.hid (CD.out.trans (HS2.out.mono CD.out.size))
  have HX2 := Lib.hid (HD8.out.kept HS2.out)
  have RX := Lib.hid (row_below HS2.out RD.out)
  clear HS0 HS1 HS2 HS3 SM SY SZ HV3 HV4 HWW HR8 HPR HDR HPB HDB HRA HRB RD HD8 CD
  cases X with
  | false =>
    have e0 := HE0.out rfl
    subst e0
    go_wp2
    go_ret
    exact ⟨rfl, CX.out⟩
  | true =>
    obtain ⟨e1, e2, e3⟩ := HE1.out rfl
    subst e1
    have HEY := Lib.hid e2
    have HER := Lib.hid e3
    have n9 := own_nil x2 x2.heap.size
    have r9 := RX.out
    clear e2 e3 i2 i3
    go_wp2_with (first
      | (at_builtin; (with_reducible refine wpList_app rfl _ _ rfl x2.heap.size (.slice none 0 0) 0 [] rfl n9 A3 128 c3 BY rfl r9 (row_none r9) (by omega) (Nat.le_refl _) ?_); intro v10 w10 o10 g10; have e10 := below_own (Below.refl _ x2) n9 g10 (Nat.le_refl _) (Nat.le_refl _); rw [Nat.zero_add, List.nil_append] at o10)
      | (at_builtin; refine wpList_zeros rfl _ _ rfl x2.heap.size v10 128 BY rfl o10 28 rfl (by omega) e10.size ?_; intro v11 w11 o11 g11; have e11 := below_own e10 o10 g11 (Nat.le_refl _) e10.size; have C11 := Lib.hid (CX.out.trans (e11.mono CX.out.size)); have H11 := Lib.hid (HX2.out.kept e11); obtain ⟨A11, c11, rfl, hc11, r11, _⟩ := o11.form; rw [HEY.out] at r11; have HR11 := Lib.hid (read_back A11 156 c11 (List.replicate 28 0) w11 HM.out HER.out (by decide) r11 hc11 (by omega)); clear o11 g11 e11 r11 o10 g10 e10)
      | (go_at_call 9; (with_reducible refine HR11.out.mono ?_); rintro e w12 ⟨rfl, b12⟩; clear HR11; have C12 := Lib.hid (C11.out.trans (b12.mono C11.out.size)); have H12 := Lib.hid (H11.out.kept b12); clear b12; have hne12 := has_new w12 27 zeroT.cells)
      | (refine wpList_row rfl 27 _ _ rfl w12.heap.size m.cells rfl rfl 27 _ hne12 (size27 HM.out) (old27 zeroT_ok HM.out) (mt_all _) ?_; intro w13 hs13 on13; have C13 := Lib.hid ((C12.out.alloc C12.out.size (.cells zeroT.cells 27)).trans (on13.to_below (C12.out.alloc C12.out.size (.cells zeroT.cells 27)).size (fun b e => by have := C12.out.size; omega))); have L13 := Lib.hid (ld27 hs13 HM.out); have M13 := Lib.hid (ld27 (Has.only (H12.out.more (.cells zeroT.cells 27)) on13 (by have := H12.out.size; omega)) HM.out); clear hs13 on13 hne12)
      | (go_at_call 13; (with_reducible refine (lnum_any _ _).mono ?_); rintro e wn ⟨rfl, rfl⟩)
      | (refine wpList_ld 27 _ rfl _ _ L13.out rfl rfl ?_)
      | (refine wpList_ld 27 _ rfl _ _ M13.out rfl rfl ?_)
      | (refine wpList_eqT _ _ rfl m rfl rfl HM.out rfl ?_))
    go_ret
    exact ⟨rfl, C13.out⟩
end Go.Proofs.Ythkgbcchnneloaa.metaTells
