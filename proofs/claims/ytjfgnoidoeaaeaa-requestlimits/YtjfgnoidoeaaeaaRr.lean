/-
  How a request and an answer are read by the document; conditions: the bytes lie as they read.
-/
import Derived.Test.YtjfgnoidoeaaeaaRf
import Derived.Test.YtjfgnoidoeaaeaaPr
namespace Go.Proofs.Ytjfgnoidoeaaeaa
open Go.RowKit
set_option linter.unusedVariables false
set_option linter.unusedSimpArgs false

theorem str_beq {xs ys : List Int} (hx : Byt xs) (hy : Byt ys) : ((strOfNums xs).toList == (strOfNums ys).toList) = decide (xs = ys) := by
  rw [Bool.eq_iff_iff, beq_iff_eq, decide_eq_true_eq, ByteArray.toList_eq, ByteArray.toList_eq, Array.toList_inj]
  exact ⟨fun h => (str_same hx hy).1 (ByteArray.ext h), fun h => by rw [h]⟩
theorem out_byt (k n : Int) {bs : List Int} (h : Byt bs) : Byt (reqOut k n bs) := by
  unfold reqOut
  split
  · exact req_byt k n h
  · exact byt_nil
theorem rout_byt (r : Rp) : Byt (respOut r) := by
  unfold respOut
  split
  · exact resp_byt r
  · exact byt_nil
theorem gotD_byt {zs : List Int} (hb : Byt zs) : Byt (gotD zs) := got_byt (st_ok hb 7) _
theorem reqD_low {zs : List Int} (h : reqZ zs ≤ 1000) : reqD zs = gotD zs := by unfold reqD; rw [if_pos h]; rfl
theorem reqD_high {zs : List Int} (h : 1000 < reqZ zs) : reqD zs = [] := by unfold reqD; rw [if_neg (by omega)]
theorem rbytes_nil (k n : Int) (w : World) : Calls Try.prog 12 #[.agg (qc k n nilV)] w (Gives (reqOut k n []).length (reqOut k n []) w) := rbytes_any k n none 0 0 [] w (row_nil w)
theorem readsq_got {zs : List Int} {w w' : World} {u : Value} (hb : Byt zs) (h : GoodQ zs) (ho : Own w' w.heap.size u (gotD zs).length (gotD zs)) (hw : Below w.heap.size w w') : ReadsQ zs w (.returned (.tuple #[.agg (qc (reqK zs) (reqN zs) u), .int .i64 0])) w' :=
  readsq_yes h (by rw [← gotD_good hb h]; exact ho) hw
/-- A state in which the document has read the numbers, its request in block h. -/
theorem bad_good {zs : List Int} {S : Rs} (hb : Byt zs) (hS : S = St zs (7 + cutN (reqZ zs) 1000) ∨ 1000 < reqZ zs) (h : S.bad = true) : ¬ GoodQ zs := fun g => by
  have h3 := good_long hb g
  have h4 := g.1
  rcases hS with rfl | hz
  · have hc : (cutN (reqZ zs) 1000 : Int) = reqZ zs := cut_mid (by have := reqZ_lt hb; omega) (by omega)
    rw [st_fine (by omega)] at h
    cases h
  · omega
set_option maxRecDepth 100000 in
set_option maxHeartbeats 8000000 in
theorem docRead_high (A : Option Addr) (n c : Nat) (zs : List Int) (w : World) (hr : Row w A n zs) (hc : n ≤ c) (hn : n ≤ 1000000) (hz : 1000 < reqZ zs) : Calls Try.prog 9 #[.slice A n c] w (ReadsQ zs w) := by
  have hz24 := zero24_run
  have HZ := Lib.hid hz
  have HB := Lib.hid hr.2.1
  have HRW := Lib.hid hr
  have C0 : Hid (Below w.heap.size w (w.alloc (.cells (qc 0 0 nilV) 24))) := Lib.hid ((Below.refl _ _).alloc (Nat.le_refl _) _)
  have H0 := Lib.hid (has_new w 24 (qc 0 0 nilV))
  have HNR0 := rnewReader_any A n c zs _ (row_below C0.out hr) hn hc w.heap.size C0.out.size (row_lies hr)
  simp only [World.size_alloc] at HNR0
  obtain ⟨p, hp⟩ : ∃ p, w.heap.size + 1 = p := ⟨_, rfl⟩
  rw [hp] at HNR0
  have HNR := Lib.hid HNR0
  have HP := Lib.hid hp
  clear HNR0 hr hp
  go_enter Try.func9, Try.ntmps9
  go_wp2_with (first
    | (go_at_call 23; (with_reducible refine HNR.out.mono ?_); rintro e w1 ⟨rfl, d1, b1⟩; clear HNR; have C1 := Lib.hid (C0.out.trans (b1.mono (by have := HP.out; omega))); have Z1 := Lib.hid (H0.out.below b1 (by have := HP.out; omega)); rw [← st_zero zs] at d1; have HQ1 := Lib.hid (rnum_k 0 1 1 (reqK zs) 1 cut8_1 rfl rfl w1 d1); clear d1 b1)
    | (go_at_call 24; (with_reducible refine HQ1.out.mono ?_); rintro e w2 ⟨rfl, t2⟩; clear HQ1; have C2 := Lib.hid (C1.out.trans (t2.2.to_below C1.out.size (fun b e => by have := HP.out; omega))); have Z2 := Lib.hid (Has.only Z1.out t2.2 (by have := HP.out; omega)); have HQ2 := Lib.hid (rnum_k 1 4 5 (reqN zs) 4 cut8_4 rfl rfl w2 t2.1); clear t2)
    | (go_at_call 24; (with_reducible refine HQ2.out.mono ?_); rintro e w3 ⟨rfl, t3⟩; clear HQ2; have C3 := Lib.hid (C2.out.trans (t3.2.to_below C2.out.size (fun b e => by have := HP.out; omega))); have Z3 := Lib.hid (Has.only Z2.out t3.2 (by have := HP.out; omega)); have D3 := Lib.hid t3.1; have HH := Lib.hid (show p < w3.heap.size from t3.1.at); clear t3; have hne := has_new w3 24 (qc 0 0 nilV))
    | (refine wpList_build_to rfl 24 _ rfl _ (built24b _ _) ?_)
    | (refine wpList_row rfl 24 _ _ rfl w3.heap.size (qc (reqK zs) (reqN zs) nilV) rfl rfl 24 _ hne (size24 _ _ _) rfl (qc_all _ _ _ _ _) ?_; intro w4 hs4 on4; have B4 := Lib.hid (show Below w3.heap.size w3 w4 from ((Below.refl w3.heap.size w3).alloc (Nat.le_refl _) (.cells (qc 0 0 nilV) 24)).trans (on4.to_below (by simp) (fun b e => by omega))); have C4 := Lib.hid (C3.out.trans (B4.out.mono C3.out.size)); have Z4 := Lib.hid (Z3.out.kept B4.out); have H4 := Lib.hid hs4; have D4 := Lib.hid (D3.out.only (P := fun _ => False) (Only.of_below B4.out) (fun b hb => hb.elim)); have HQ3 := Lib.hid (rnum_k 5 2 7 (reqZ zs) 2 cut8_2 rfl rfl w4 D4.out); clear hs4 on4 hne)
    | (go_at_call 24; (with_reducible refine HQ3.out.mono ?_); rintro e w5 ⟨rfl, t5⟩; clear HQ3; have C5 := Lib.hid (C4.out.trans (t5.2.to_below C4.out.size (fun b e => by have := HP.out; omega))); have Z5 := Lib.hid (Has.only Z4.out t5.2 (by have := HP.out; omega)); have H5 := Lib.hid (Has.only H4.out t5.2 (by have := HH.out; omega)); have D5 := Lib.hid t5.1; have L5 := Lib.hid (ld24 H5.out); have HX := Lib.hid (rbytes_nil (reqK zs) (reqN zs) w5); clear t5)
    | (refine wpList_ld 24 _ rfl _ _ L5.out rfl rfl ?_)
    | (go_at_call 12; (with_reducible refine HX.out.mono ?_); rintro e w8 ⟨vx, rfl, ox, b8⟩; clear HX; obtain ⟨Ax, cx, rfl, hcx, rx, _⟩ := ox.form; have C8 := Lib.hid (C5.out.trans (b8.mono C5.out.size)); have Z8 := Lib.hid (Z5.out.kept b8); have H8 := Lib.hid (H5.out.kept b8); have D8 := Lib.hid (D5.out.only (P := fun _ => False) (Only.of_below b8) (fun b hb => hb.elim)); have RX := Lib.hid rx; have HBD := Lib.hid (rbad_any w8 D8.out); clear b8 ox rx))
  have RZ := Lib.hid (row_lt HRW.out (Nat.le_refl _) C8.out)
  have HCX := conv_row (c := cx) RX.out
  have HCZ := conv_row (c := c) RZ.out
  have HSB := str_beq (out_byt (reqK zs) (reqN zs) byt_nil) HB.out
  have HSAME := Lib.hid (req_same HB.out)
  rw [reqD_high HZ.out] at HSAME
  have HGOOD := Lib.hid (fun h => bad_good HB.out (S := St zs 7) (.inr HZ.out) h)
  generalize hx : reqOut (reqK zs) (reqN zs) [] = xs at *
  generalize (St zs 7).bad = b at *
  cases b with
  | true =>
    go_wp2_with (first
      | (go_at_call 26; (with_reducible refine HBD.out.mono ?_); rintro e w9 ⟨rfl, rfl⟩; clear HBD)
      | (refine wpList_build_to rfl 24 _ rfl _ built24 ?_)
      | (refine wpList_store_row rfl 24 _ _ rfl w.heap.size (qc 0 0 nilV) rfl rfl 24 _ Z8.out (size24 _ _ _) rfl (qc_all _ _ _ _ _) ?_))
    exact bodyPost_ret (results_q (p := 2) (u := 3) rfl _ _ w.heap.size 0 0 nilV rfl (setRow_heap _ _ _ _ _ _ Z8.out)) rfl (readsq_no (HGOOD.out (by simp)) (below_setRow C8.out (Nat.le_refl _) _))
  | false =>
    by_cases h0 : xs.length = 0
    · rw [h0] at HCX ⊢
      have HNG := Lib.hid (show ¬ GoodQ zs from fun g => (HSAME.out.2 g).2 (List.eq_nil_of_length_eq_zero h0))
      go_wp2_with (first
        | (go_at_call 26; (with_reducible refine HBD.out.mono ?_); rintro e w9 ⟨rfl, rfl⟩; clear HBD)
        | (refine wpList_build_to rfl 24 _ rfl _ built24 ?_)
        | (refine wpList_store_row rfl 24 _ _ rfl w.heap.size (qc 0 0 nilV) rfl rfl 24 _ Z8.out (size24 _ _ _) rfl (qc_all _ _ _ _ _) ?_))
      exact bodyPost_ret (results_q (p := 2) (u := 3) rfl _ _ w.heap.size 0 0 nilV rfl (setRow_heap _ _ _ _ _ _ Z8.out)) rfl (readsq_no HNG.out (below_setRow C8.out (Nat.le_refl _) _))
    · have h0' : ((xs.length : Int) == 0) = false := by rw [beq_eq_false_iff_ne]; omega
      by_cases he : xs = zs
      · rw [decide_eq_true he] at HSB
        have HG := Lib.hid (HSAME.out.1 ⟨he, fun e => h0 (by rw [e]; rfl)⟩)
        clear he h0
        exact absurd HG.out (fun g => by have := good_long HB.out g; have := g.1; omega)
      · rw [decide_eq_false he] at HSB
        have HNG := Lib.hid (show ¬ GoodQ zs from fun g => he (HSAME.out.2 g).1)
        go_wp2_with (first
          | (go_at_call 26; (with_reducible refine HBD.out.mono ?_); rintro e w9 ⟨rfl, rfl⟩; clear HBD)
          | (refine wpList_build_to rfl 24 _ rfl _ built24 ?_)
          | (refine wpList_store_row rfl 24 _ _ rfl w.heap.size (qc 0 0 nilV) rfl rfl 24 _ Z8.out (size24 _ _ _) rfl (qc_all _ _ _ _ _) ?_))
        exact bodyPost_ret (results_q (p := 2) (u := 3) rfl _ _ w.heap.size 0 0 nilV rfl (setRow_heap _ _ _ _ _ _ Z8.out)) rfl (readsq_no HNG.out (below_setRow C8.out (Nat.le_refl _) _))
set_option maxRecDepth 100000 in
set_option maxHeartbeats 8000000 in
theorem docRead_low (A : Option Addr) (n c : Nat) (zs : List Int) (w : World) (hr : Row w A n zs) (hc : n ≤ c) (hn : n ≤ 1000000) (hz : reqZ zs ≤ 1000) : Calls Try.prog 9 #[.slice A n c] w (ReadsQ zs w) := by
  have hz24 := zero24_run
  have HZ := Lib.hid hz
  have HB := Lib.hid hr.2.1
  have HRW := Lib.hid hr
  have C0 : Hid (Below w.heap.size w (w.alloc (.cells (qc 0 0 nilV) 24))) := Lib.hid ((Below.refl _ _).alloc (Nat.le_refl _) _)
  have H0 := Lib.hid (has_new w 24 (qc 0 0 nilV))
  have HNR0 := rnewReader_any A n c zs _ (row_below C0.out hr) hn hc w.heap.size C0.out.size (row_lies hr)
  simp only [World.size_alloc] at HNR0
  obtain ⟨p, hp⟩ : ∃ p, w.heap.size + 1 = p := ⟨_, rfl⟩
  rw [hp] at HNR0
  have HNR := Lib.hid HNR0
  have HP := Lib.hid hp
  clear HNR0 hr hp
  go_enter Try.func9, Try.ntmps9
  go_wp2_with (first
    | (go_at_call 23; (with_reducible refine HNR.out.mono ?_); rintro e w1 ⟨rfl, d1, b1⟩; clear HNR; have C1 := Lib.hid (C0.out.trans (b1.mono (by have := HP.out; omega))); have Z1 := Lib.hid (H0.out.below b1 (by have := HP.out; omega)); rw [← st_zero zs] at d1; have HQ1 := Lib.hid (rnum_k 0 1 1 (reqK zs) 1 cut8_1 rfl rfl w1 d1); clear d1 b1)
    | (go_at_call 24; (with_reducible refine HQ1.out.mono ?_); rintro e w2 ⟨rfl, t2⟩; clear HQ1; have C2 := Lib.hid (C1.out.trans (t2.2.to_below C1.out.size (fun b e => by have := HP.out; omega))); have Z2 := Lib.hid (Has.only Z1.out t2.2 (by have := HP.out; omega)); have HQ2 := Lib.hid (rnum_k 1 4 5 (reqN zs) 4 cut8_4 rfl rfl w2 t2.1); clear t2)
    | (go_at_call 24; (with_reducible refine HQ2.out.mono ?_); rintro e w3 ⟨rfl, t3⟩; clear HQ2; have C3 := Lib.hid (C2.out.trans (t3.2.to_below C2.out.size (fun b e => by have := HP.out; omega))); have Z3 := Lib.hid (Has.only Z2.out t3.2 (by have := HP.out; omega)); have D3 := Lib.hid t3.1; have HH := Lib.hid (show p < w3.heap.size from t3.1.at); clear t3; have hne := has_new w3 24 (qc 0 0 nilV))
    | (refine wpList_build_to rfl 24 _ rfl _ (built24b _ _) ?_)
    | (refine wpList_row rfl 24 _ _ rfl w3.heap.size (qc (reqK zs) (reqN zs) nilV) rfl rfl 24 _ hne (size24 _ _ _) rfl (qc_all _ _ _ _ _) ?_; intro w4 hs4 on4; have B4 := Lib.hid (show Below w3.heap.size w3 w4 from ((Below.refl w3.heap.size w3).alloc (Nat.le_refl _) (.cells (qc 0 0 nilV) 24)).trans (on4.to_below (by simp) (fun b e => by omega))); have C4 := Lib.hid (C3.out.trans (B4.out.mono C3.out.size)); have Z4 := Lib.hid (Z3.out.kept B4.out); have H4 := Lib.hid hs4; have D4 := Lib.hid (D3.out.only (P := fun _ => False) (Only.of_below B4.out) (fun b hb => hb.elim)); have HQ3 := Lib.hid (rnum_k 5 2 7 (reqZ zs) 2 cut8_2 rfl rfl w4 D4.out); clear hs4 on4 hne)
    | (go_at_call 24; (with_reducible refine HQ3.out.mono ?_); rintro e w5 ⟨rfl, t5⟩; clear HQ3; have C5 := Lib.hid (C4.out.trans (t5.2.to_below C4.out.size (fun b e => by have := HP.out; omega))); have Z5 := Lib.hid (Has.only Z4.out t5.2 (by have := HP.out; omega)); have H5 := Lib.hid (Has.only H4.out t5.2 (by have := HH.out; omega)); have D5 := Lib.hid t5.1; have HRA := Lib.hid (rraw_k 7 _ _ (gotD zs) (reqZ zs) rfl rfl rfl w5 t5.1); clear t5)
    | (go_at_call 25; (with_reducible refine HRA.out.mono ?_); rintro e w6 ⟨u, rfl, ou, t6⟩; clear HRA; obtain ⟨A6, c6, rfl, hc6, r6, _⟩ := ou.form; have C6 := Lib.hid (C5.out.trans (t6.2.to_below C5.out.size (fun b e => by have := HP.out; omega))); have Z6 := Z5.out.only t6.2 (by have := HP.out; omega); have H6 := H5.out.only t6.2 (by have := HH.out; omega); have q6 : w6.cell? ⟨w3.heap.size, 2, none⟩ = some nilV := H6.at 2; have f6 := H6.soft 2; have H7 : Hid (Has (w6.setCell ⟨w3.heap.size, 2, none⟩ (.slice A6 (gotD zs).length c6)) w3.heap.size 24 (qc (reqK zs) (reqN zs) (.slice A6 (gotD zs).length c6))) := Lib.hid (qc_put H6 _); have L7 := Lib.hid (ld24 H7.out); have O7 := Lib.hid (only_cell w6 w3.heap.size 2 (.slice A6 (gotD zs).length c6)); have C7 := Lib.hid (C6.out.trans (O7.out.to_below C6.out.size (fun b e => by have := C3.out.size; omega))); have Z7 := Lib.hid (Z6.only O7.out (by have := HH.out; have := HP.out; omega)); have D7 := Lib.hid (t6.1.only O7.out (fun b e => by have := HH.out; have := HP.out; omega)); have HS5 := Lib.hid (show w3.heap.size < w5.heap.size from H5.out.size); have U7 := Lib.hid (own_by ou (fun g h1 h2 => O7.out.block g h2 (by have := HS5.out; omega))); have R7 : Row (w6.setCell ⟨w3.heap.size, 2, none⟩ (.slice A6 (gotD zs).length c6)) A6 (gotD zs).length (gotD zs) := (by obtain ⟨A7, c7, e7, _, h7, _⟩ := U7.out.form; cases e7; exact h7); have HX := Lib.hid (rbytes_any (reqK zs) (reqN zs) A6 (gotD zs).length c6 (gotD zs) (w6.setCell ⟨w3.heap.size, 2, none⟩ (.slice A6 (gotD zs).length c6)) R7); clear t6 ou H6 Z6 r6 R7)
    | (refine wpList_ld 24 _ rfl _ _ L7.out rfl rfl ?_)
    | (go_at_call 12; (with_reducible refine HX.out.mono ?_); rintro e w8 ⟨vx, rfl, ox, b8⟩; clear HX; obtain ⟨Ax, cx, rfl, hcx, rx, _⟩ := ox.form; have C8 := Lib.hid (C7.out.trans (b8.mono C7.out.size)); have Z8 := Lib.hid (Z7.out.kept b8); have H8 := Lib.hid (H7.out.kept b8); have D8 := Lib.hid (D7.out.only (P := fun _ => False) (Only.of_below b8) (fun b hb => hb.elim)); have RX := Lib.hid rx; have HBD := Lib.hid (rbad_any w8 D8.out); have L8 := Lib.hid (ld24 H8.out); have U8 := Lib.hid (U7.out.kept b8); have HZ5 := Lib.hid (show w.heap.size < w5.heap.size from Z5.out.size); clear b8 ox rx))
  have RZ := Lib.hid (row_lt HRW.out (Nat.le_refl _) C8.out)
  have HCX := conv_row (c := cx) RX.out
  have HCZ := conv_row (c := c) RZ.out
  have HSB := str_beq (out_byt (reqK zs) (reqN zs) (gotD_byt HB.out)) HB.out
  have HSAME := Lib.hid (req_same HB.out)
  rw [reqD_low HZ.out] at HSAME
  have HGOOD := Lib.hid (fun h => bad_good HB.out (S := St zs (7 + cutN (reqZ zs) 1000)) (.inl rfl) h)
  generalize hx : reqOut (reqK zs) (reqN zs) (gotD zs) = xs at *
  generalize (St zs (7 + cutN (reqZ zs) 1000)).bad = b at *
  cases b with
  | true =>
    go_wp2_with (first
      | (go_at_call 26; (with_reducible refine HBD.out.mono ?_); rintro e w9 ⟨rfl, rfl⟩; clear HBD)
      | (refine wpList_build_to rfl 24 _ rfl _ built24 ?_)
      | (refine wpList_store_row rfl 24 _ _ rfl w.heap.size (qc 0 0 nilV) rfl rfl 24 _ Z8.out (size24 _ _ _) rfl (qc_all _ _ _ _ _) ?_))
    exact bodyPost_ret (results_q (p := 2) (u := 3) rfl _ _ w.heap.size 0 0 nilV rfl (setRow_heap _ _ _ _ _ _ Z8.out)) rfl (readsq_no (HGOOD.out (by simp)) (below_setRow C8.out (Nat.le_refl _) _))
  | false =>
    by_cases h0 : xs.length = 0
    · rw [h0] at HCX ⊢
      have HNG := Lib.hid (show ¬ GoodQ zs from fun g => (HSAME.out.2 g).2 (List.eq_nil_of_length_eq_zero h0))
      go_wp2_with (first
        | (go_at_call 26; (with_reducible refine HBD.out.mono ?_); rintro e w9 ⟨rfl, rfl⟩; clear HBD)
        | (refine wpList_build_to rfl 24 _ rfl _ built24 ?_)
        | (refine wpList_store_row rfl 24 _ _ rfl w.heap.size (qc 0 0 nilV) rfl rfl 24 _ Z8.out (size24 _ _ _) rfl (qc_all _ _ _ _ _) ?_))
      exact bodyPost_ret (results_q (p := 2) (u := 3) rfl _ _ w.heap.size 0 0 nilV rfl (setRow_heap _ _ _ _ _ _ Z8.out)) rfl (readsq_no HNG.out (below_setRow C8.out (Nat.le_refl _) _))
    · have h0' : ((xs.length : Int) == 0) = false := by rw [beq_eq_false_iff_ne]; omega
      by_cases he : xs = zs
      · rw [decide_eq_true he] at HSB
        have HG := Lib.hid (HSAME.out.1 ⟨he, fun e => h0 (by rw [e]; rfl)⟩)
        clear he h0
        go_wp2_with (first
          | (go_at_call 26; (with_reducible refine HBD.out.mono ?_); rintro e w9 ⟨rfl, rfl⟩; clear HBD)
          | (refine wpList_ld 24 _ rfl _ _ L8.out rfl rfl ?_)
          | (refine wpList_store_row rfl 24 _ _ rfl w.heap.size (qc (reqK zs) (reqN zs) (.slice A6 (gotD zs).length c6)) rfl rfl 24 _ Z8.out (size24 _ _ _) rfl (qc_all _ _ _ _ _) ?_))
        have HU := own_set U8.out (qc (reqK zs) (reqN zs) (.slice A6 (gotD zs).length c6)) HZ5.out
        have HU2 := HU.lower (base' := w.heap.size) (by have := HZ5.out; omega)
        exact bodyPost_ret (results_q (p := 2) (u := 3) rfl _ _ w.heap.size _ _ _ rfl (setRow_heap _ _ _ _ _ _ Z8.out)) rfl (readsq_got HB.out HG.out HU2 (below_setRow C8.out (Nat.le_refl _) _))
      · rw [decide_eq_false he] at HSB
        have HNG := Lib.hid (show ¬ GoodQ zs from fun g => he (HSAME.out.2 g).1)
        go_wp2_with (first
          | (go_at_call 26; (with_reducible refine HBD.out.mono ?_); rintro e w9 ⟨rfl, rfl⟩; clear HBD)
          | (refine wpList_build_to rfl 24 _ rfl _ built24 ?_)
          | (refine wpList_store_row rfl 24 _ _ rfl w.heap.size (qc 0 0 nilV) rfl rfl 24 _ Z8.out (size24 _ _ _) rfl (qc_all _ _ _ _ _) ?_))
        exact bodyPost_ret (results_q (p := 2) (u := 3) rfl _ _ w.heap.size 0 0 nilV rfl (setRow_heap _ _ _ _ _ _ Z8.out)) rfl (readsq_no HNG.out (below_setRow C8.out (Nat.le_refl _) _))
set_option maxRecDepth 100000 in
set_option maxHeartbeats 8000000 in
theorem docAnswer_any (A : Option Addr) (n c : Nat) (zs : List Int) (w : World) (hr : Row w A n zs) (hc : n ≤ c) (hn : n ≤ 1000000) : Calls Try.prog 11 #[.slice A n c] w (ReadsR zs w) := by
  have hz27 := zero27_run
  have HB := Lib.hid hr.2.1
  have HRW := Lib.hid hr
  have C0 : Hid (Below w.heap.size w (w.alloc (.cells zeroR.cells 27))) := Lib.hid ((Below.refl _ _).alloc (Nat.le_refl _) _)
  have H0 := Lib.hid (has_new w 27 zeroR.cells)
  have HNR0 := rnewReader_any A n c zs _ (row_below C0.out hr) hn hc w.heap.size C0.out.size (row_lies hr)
  simp only [World.size_alloc] at HNR0
  obtain ⟨p, hp⟩ : ∃ p, w.heap.size + 1 = p := ⟨_, rfl⟩
  rw [hp] at HNR0
  have HNR := Lib.hid HNR0
  have HP := Lib.hid hp
  clear HNR0 hr hp
  go_enter Try.func11, Try.ntmps11
  go_wp2_with (first
    | (go_at_call 23; (with_reducible refine HNR.out.mono ?_); rintro e w1 ⟨rfl, d1, b1⟩; clear HNR; have C1 := Lib.hid (C0.out.trans (b1.mono (by have := HP.out; omega))); have Z1 := Lib.hid (H0.out.below b1 (by have := HP.out; omega)); rw [← st_zero zs] at d1; have HQ1 := Lib.hid (rnum_k 0 1 1 (respS zs).err 1 cut8_1 rfl rfl w1 d1); clear d1 b1)
    | (go_at_call 24; (with_reducible refine HQ1.out.mono ?_); rintro e w2 ⟨rfl, t2⟩; clear HQ1; have C2 := Lib.hid (C1.out.trans (t2.2.to_below C1.out.size (fun b e => by have := HP.out; omega))); have Z2 := Lib.hid (Has.only Z1.out t2.2 (by have := HP.out; omega)); have HQ2 := Lib.hid (rnum_k 1 4 5 (respS zs).num 4 cut8_4 rfl rfl w2 t2.1); clear t2)
    | (go_at_call 24; (with_reducible refine HQ2.out.mono ?_); rintro e w3 ⟨rfl, t3⟩; clear HQ2; have C3 := Lib.hid (C2.out.trans (t3.2.to_below C2.out.size (fun b e => by have := HP.out; omega))); have Z3 := Lib.hid (Has.only Z2.out t3.2 (by have := HP.out; omega)); have HQ3 := Lib.hid (rnum_k 5 4 9 (respS zs).gott 4 cut8_4 rfl rfl w3 t3.1); clear t3)
    | (go_at_call 24; (with_reducible refine HQ3.out.mono ?_); rintro e w4 ⟨rfl, t4⟩; clear HQ3; have C4 := Lib.hid (C3.out.trans (t4.2.to_below C3.out.size (fun b e => by have := HP.out; omega))); have Z4 := Lib.hid (Has.only Z3.out t4.2 (by have := HP.out; omega)); have D4 := Lib.hid t4.1; have HH := Lib.hid (show p < w4.heap.size from t4.1.at); clear t4; have hne := has_new w4 27 zeroR.cells)
    | (refine wpList_build_to rfl 27 _ rfl _ (built27b _ _ _) ?_)
    | (refine wpList_row rfl 27 _ _ rfl w4.heap.size (respS zs).cells rfl rfl 27 _ hne (size27 _) rfl (rp_all _) ?_; intro w5 hs5 on5; have B5 := Lib.hid (show Below w4.heap.size w4 w5 from ((Below.refl w4.heap.size w4).alloc (Nat.le_refl _) (.cells zeroR.cells 27)).trans (on5.to_below (by simp) (fun b e => by omega))); have C5 := Lib.hid (C4.out.trans (B5.out.mono C4.out.size)); have Z5 := Lib.hid (Z4.out.kept B5.out); have H5 := Lib.hid hs5; have D5 := Lib.hid (D4.out.only (P := fun _ => False) (Only.of_below B5.out) (fun b hb => hb.elim)); have L5 := Lib.hid (ld27 hs5); have HX := Lib.hid (ranswer_any (respS zs) w5); clear hs5 on5 hne)
    | (refine wpList_ld 27 _ rfl _ _ L5.out rfl rfl ?_)
    | (go_at_call 16; (with_reducible refine HX.out.mono ?_); rintro e w8 ⟨vx, rfl, ox, b8⟩; clear HX; obtain ⟨Ax, cx, rfl, hcx, rx, _⟩ := ox.form; have C8 := Lib.hid (C5.out.trans (b8.mono C5.out.size)); have Z8 := Lib.hid (Z5.out.kept b8); have L8 := Lib.hid (ld27 (H5.out.kept b8)); have RX := Lib.hid rx; have HBD := Lib.hid (rbad_any w8 (D5.out.only (P := fun _ => False) (Only.of_below b8) (fun b hb => hb.elim))); clear b8 ox rx))
  have RZ := Lib.hid (row_lt HRW.out (Nat.le_refl _) C8.out)
  have HCX := conv_row (c := cx) RX.out
  have HCZ := conv_row (c := c) RZ.out
  have HSB := str_beq (rout_byt (respS zs)) HB.out
  have HSAME := Lib.hid (resp_same HB.out)
  have HGOOD := Lib.hid (show (St zs 9).bad = true → ¬ GoodR zs from fun h g => by rw [st_fine (by have := g.1; omega)] at h; cases h)
  generalize hx : respOut (respS zs) = xs at *
  generalize (St zs 9).bad = b at *
  cases b with
  | true =>
    go_wp2_with (first
      | (go_at_call 26; (with_reducible refine HBD.out.mono ?_); rintro e w9 ⟨rfl, rfl⟩; clear HBD)
      | (refine wpList_build_to rfl 27 _ rfl _ built27 ?_)
      | (refine wpList_store_row rfl 27 _ _ rfl w.heap.size zeroR.cells rfl rfl 27 _ Z8.out (size27 _) rfl (rp_all _) ?_))
    exact bodyPost_ret (results_r (p := 2) (u := 3) rfl _ _ w.heap.size zeroR rfl (setRow_heap _ _ _ _ _ _ Z8.out)) rfl (readsr_no (HGOOD.out (by simp)) (below_setRow C8.out (Nat.le_refl _) _))
  | false =>
    by_cases h0 : xs.length = 0
    · rw [h0] at HCX ⊢
      have HNG := Lib.hid (show ¬ GoodR zs from fun g => (HSAME.out.2 g).2 (List.eq_nil_of_length_eq_zero h0))
      go_wp2_with (first
        | (go_at_call 26; (with_reducible refine HBD.out.mono ?_); rintro e w9 ⟨rfl, rfl⟩; clear HBD)
        | (refine wpList_build_to rfl 27 _ rfl _ built27 ?_)
        | (refine wpList_store_row rfl 27 _ _ rfl w.heap.size zeroR.cells rfl rfl 27 _ Z8.out (size27 _) rfl (rp_all _) ?_))
      exact bodyPost_ret (results_r (p := 2) (u := 3) rfl _ _ w.heap.size zeroR rfl (setRow_heap _ _ _ _ _ _ Z8.out)) rfl (readsr_no HNG.out (below_setRow C8.out (Nat.le_refl _) _))
    · have h0' : ((xs.length : Int) == 0) = false := by rw [beq_eq_false_iff_ne]; omega
      by_cases he : xs = zs
      · rw [decide_eq_true he] at HSB
        have HG := Lib.hid (HSAME.out.1 ⟨he, fun e => h0 (by rw [e]; rfl)⟩)
        clear he h0
        go_wp2_with (first
          | (go_at_call 26; (with_reducible refine HBD.out.mono ?_); rintro e w9 ⟨rfl, rfl⟩; clear HBD)
          | (refine wpList_ld 27 _ rfl _ _ L8.out rfl rfl ?_)
          | (refine wpList_store_row rfl 27 _ _ rfl w.heap.size (respS zs).cells rfl rfl 27 _ Z8.out (size27 _) rfl (rp_all _) ?_))
        exact bodyPost_ret (results_r (p := 2) (u := 3) rfl _ _ w.heap.size (respS zs) rfl (setRow_heap _ _ _ _ _ _ Z8.out)) rfl (readsr_yes HG.out (below_setRow C8.out (Nat.le_refl _) _))
      · rw [decide_eq_false he] at HSB
        have HNG := Lib.hid (show ¬ GoodR zs from fun g => he (HSAME.out.2 g).1)
        go_wp2_with (first
          | (go_at_call 26; (with_reducible refine HBD.out.mono ?_); rintro e w9 ⟨rfl, rfl⟩; clear HBD)
          | (refine wpList_build_to rfl 27 _ rfl _ built27 ?_)
          | (refine wpList_store_row rfl 27 _ _ rfl w.heap.size zeroR.cells rfl rfl 27 _ Z8.out (size27 _) rfl (rp_all _) ?_))
        exact bodyPost_ret (results_r (p := 2) (u := 3) rfl _ _ w.heap.size zeroR rfl (setRow_heap _ _ _ _ _ _ Z8.out)) rfl (readsr_no HNG.out (below_setRow C8.out (Nat.le_refl _) _))
theorem docRead_any (A : Option Addr) (n c : Nat) (zs : List Int) (w : World) (hr : Row w A n zs) (hc : n ≤ c) (hn : n ≤ 1000000) : Calls Try.prog 9 #[.slice A n c] w (ReadsQ zs w) := by
  by_cases h : 1000 < reqZ zs
  · exact docRead_high A n c zs w hr hc hn h
  · exact docRead_low A n c zs w hr hc hn (by omega)
end Go.Proofs.Ytjfgnoidoeaaeaa
