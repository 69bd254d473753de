/-
  How a request and an answer are read by the program: readReq and readResp, told apart by a type assertion; Read and ReadAnswer; conditions: the bytes lie as they read.
-/
import Derived.Test.YtjfgnoidoeaaeaaPw
namespace Go.Proofs.Ytjfgnoidoeaaeaa
open Go.RowKit
set_option linter.unusedVariables false
set_option linter.unusedSimpArgs false

theorem num_k {p T : Nat} {zs : List Int} (k n k' : Nat) (x s : Int) (hs : cutN s 8 = n) (hk : k + n = k') (hx : stN zs k n = x) (w : World) (hS : Rd w p T (St zs k)) :
    Calls Try.prog 36 #[.pointer (some ⟨p, 0, none⟩), .int .i64 s] w (GivesN x (RdTo p T (St zs k') w)) := by
  have h := num_any s w hS
  rw [hs, st_aft zs k n, hk] at h
  subst hx
  exact h
theorem raw_k {p T : Nat} {zs : List Int} (k n k' : Nat) (ys : List Int) (s : Int) (hs : cutN s 1000 = n) (hk : k + n = k') (hy : got (St zs k) n = ys) (w : World) (hS : Rd w p T (St zs k)) :
    Calls Try.prog 37 #[.pointer (some ⟨p, 0, none⟩), .int .i64 s] w (GivesR ys w (RdTo p T (St zs k') w)) := by
  have h := raw_any s w hS
  rw [hs, st_aft zs k n, hk, hy] at h
  exact h
theorem rnum_k {p T : Nat} {zs : List Int} (k n k' : Nat) (x s : Int) (hs : cutN s 8 = n) (hk : k + n = k') (hx : stN zs k n = x) (w : World) (hS : Rr w p T (St zs k)) :
    Calls Try.prog 24 #[.pointer (some ⟨p, 0, none⟩), .int .i64 s] w (GivesN x (RrTo p T (St zs k') w)) := by
  have h := rnum_any s w hS
  rw [hs, st_aft zs k n, hk] at h
  subst hx
  exact h
theorem rraw_k {p T : Nat} {zs : List Int} (k n k' : Nat) (ys : List Int) (s : Int) (hs : cutN s 1000 = n) (hk : k + n = k') (hy : got (St zs k) n = ys) (w : World) (hS : Rr w p T (St zs k)) :
    Calls Try.prog 25 #[.pointer (some ⟨p, 0, none⟩), .int .i64 s] w (GivesR ys w (RrTo p T (St zs k') w)) := by
  have h := rraw_any s w hS
  rw [hs, st_aft zs k n, hk, hy] at h
  exact h
theorem qc_put {w : World} {g : Nat} {k n : Int} {u : Value} (h : Has w g 24 (qc k n u)) (v : Value) : Has (w.setCell ⟨g, 2, none⟩ v) g 24 (qc k n v) := h.put 2 v
theorem Rd.at {w : World} {p T : Nat} {S : Rs} (h : Rd w p T S) : p < w.heap.size := by
  obtain ⟨_, _, _, A, c, h4, _⟩ := h
  exact h4.size
theorem Rr.at {w : World} {p T : Nat} {S : Rs} (h : Rr w p T S) : p < w.heap.size := by
  obtain ⟨_, _, _, A, n, c, zs, h4, _⟩ := h
  exact h4.size
theorem own_by {w w' : World} {base : Nat} {v : Value} {n : Nat} {zs : List Int} (h : Own w base v n zs) (hk : ∀ g, base ≤ g → g < w.heap.size → w'.heap[g]? = w.heap[g]?) : Own w' base v n zs := by
  obtain ⟨⟨h1, h2⟩, h3⟩ := h
  refine ⟨⟨h1, ?_⟩, h3⟩
  rcases h2 with h2 | ⟨g, cap, cur, e1, e2, e3, e4⟩
  · exact .inl h2
  · exact .inr ⟨g, cap, cur, e1, e2, (hk g e2 (Array.getElem?_eq_some_iff.1 e3).1).trans e3, e4⟩
theorem only_cell (w : World) (h i : Nat) (v : Value) : Only (fun b => b = h) w (w.setCell ⟨h, i, none⟩ v) := (Only.refl (fun b => b = h) w).setCell (q := ⟨h, i, none⟩) rfl v
/-- The bytes that a reader finds behind the numbers of a request. -/
def gotD (zs : List Int) : List Int := got (St zs 7) (cutN (reqZ zs) 1000)
theorem gotD_good {zs : List Int} (hb : Byt zs) (h : GoodQ zs) : gotD zs = zs.drop 7 := by
  have h1 := h.1
  have h2 := req_in h.2
  have h3 := good_long hb h
  have e := reqD_good hb h
  unfold reqD at e
  rwa [if_pos (by omega)] at e
/-- What readReq answers, and where the reader is then. -/
def ReadQ (zs : List Int) (p T : Nat) (w : World) (e : Ending) (w' : World) : Prop := ∃ v S, e = .returned v ∧ Rd w' p T S ∧ Only (fun b => b = p) w w' ∧
  ((v = .nilIface ∧ ¬ GoodQ zs) ∨ (reqZ zs ≤ 1000 ∧ reqB (reqK zs) (reqN zs) (gotD zs).length = true ∧ S = St zs (7 + cutN (reqZ zs) 1000) ∧
    ∃ u, v = .iface 24 (.agg (qc (reqK zs) (reqN zs) u)) ∧ Own w' w.heap.size u (gotD zs).length (gotD zs)))
set_option maxRecDepth 100000 in
set_option maxHeartbeats 4000000 in
theorem readReq_any {p T : Nat} {zs : List Int} (w : World) (hb : Byt zs) (hS : Rd w p T (St zs 0)) :
    Calls Try.prog 22 #[.pointer (some ⟨p, 0, none⟩)] w (ReadQ zs p T w) := by
  have hz24 := zero24_run
  have HP := Lib.hid hS.at
  have HT := Lib.hid hS.2.1
  have HK1 := Lib.hid (num_k 0 1 1 (reqK zs) 1 cut8_1 rfl rfl w hS)
  have HB := Lib.hid hb
  clear hS hb
  by_cases hz : 1000 < reqZ zs
  · go_enter Try.func22, Try.ntmps22
    go_wp2_with (first
      | (go_at_call 36; (with_reducible refine HK1.out.mono ?_); rintro e w1 ⟨rfl, t1⟩; clear HK1; have O1 := Lib.hid t1.2; have HK2 := Lib.hid (num_k 1 4 5 (reqN zs) 4 cut8_4 rfl rfl w1 t1.1); clear t1)
      | (go_at_call 36; (with_reducible refine HK2.out.mono ?_); rintro e w2 ⟨rfl, t2⟩; clear HK2; have O2 := Lib.hid (O1.out.trans t2.2); have R2 := Lib.hid (t2.1.only (P := fun _ => False) (Only.of_below ((Below.refl _ _).alloc (Nat.le_refl _) (.cells (qc 0 0 nilV) 24))) (fun b hb => hb.elim)); have hne := has_new w2 24 (qc 0 0 nilV); clear t2)
      | (refine wpList_build_to rfl 24 _ rfl _ (built24b _ _) ?_)
      | (refine wpList_row rfl 24 _ _ rfl w2.heap.size (qc (reqK zs) (reqN zs) nilV) rfl rfl 24 _ hne (size24 _ _ _) rfl (qc_all _ _ _ _ _) ?_; intro w3 hs3 on3; have O3 := Lib.hid ((O2.out.alloc (.cells (qc 0 0 nilV) 24)).below' (on3.to_below (by have := O2.out.size; simp; omega) (fun b e => by have := O2.out.size; omega))); have R3 := R2.out.only on3 (fun b e => by have := O2.out.size; have := HP.out; have := HT.out; omega); have HK3 := Lib.hid (num_k 5 2 7 (reqZ zs) 2 cut8_2 rfl rfl w3 R3); clear R3 R2 on3)
      | (go_at_call 36; (with_reducible refine HK3.out.mono ?_); rintro e w4 ⟨rfl, t4⟩; clear HK3; have O4 := Lib.hid (O3.out.trans t4.2); have R4 := Lib.hid t4.1; clear t4))
    go_ret
    exact ⟨_, _, rfl, R4.out, O4.out, .inl ⟨rfl, fun g => by have := good_long HB.out g; have := g.1; omega⟩⟩
  · cases hx : reqB (reqK zs) (reqN zs) (gotD zs).length with
    | false =>
      have HX := Lib.hid hx
      clear hx
      go_enter Try.func22, Try.ntmps22
      go_wp2_with (first
        | (go_at_call 36; (with_reducible refine HK1.out.mono ?_); rintro e w1 ⟨rfl, t1⟩; clear HK1; have O1 := Lib.hid t1.2; have HK2 := Lib.hid (num_k 1 4 5 (reqN zs) 4 cut8_4 rfl rfl w1 t1.1); clear t1)
        | (go_at_call 36; (with_reducible refine HK2.out.mono ?_); rintro e w2 ⟨rfl, t2⟩; clear HK2; have O2 := Lib.hid (O1.out.trans t2.2); have R2 := Lib.hid (t2.1.only (P := fun _ => False) (Only.of_below ((Below.refl _ _).alloc (Nat.le_refl _) (.cells (qc 0 0 nilV) 24))) (fun b hb => hb.elim)); have hne := has_new w2 24 (qc 0 0 nilV); clear t2)
        | (refine wpList_build_to rfl 24 _ rfl _ (built24b _ _) ?_)
        | (refine wpList_row rfl 24 _ _ rfl w2.heap.size (qc (reqK zs) (reqN zs) nilV) rfl rfl 24 _ hne (size24 _ _ _) rfl (qc_all _ _ _ _ _) ?_; intro w3 hs3 on3; have O3 := Lib.hid ((O2.out.alloc (.cells (qc 0 0 nilV) 24)).below' (on3.to_below (by have := O2.out.size; simp; omega) (fun b e => by have := O2.out.size; omega))); have H3 := Lib.hid hs3; have R3 := R2.out.only on3 (fun b e => by have := O2.out.size; have := HP.out; have := HT.out; omega); have HK3 := Lib.hid (num_k 5 2 7 (reqZ zs) 2 cut8_2 rfl rfl w3 R3); clear R3 R2 on3 hs3)
        | (go_at_call 36; (with_reducible refine HK3.out.mono ?_); rintro e w4 ⟨rfl, t4⟩; clear HK3; have O4 := Lib.hid (O3.out.trans t4.2); have H4 := Lib.hid (H3.out.only t4.2 (by have := O2.out.size; have := HP.out; omega)); have HR := Lib.hid (raw_k 7 _ _ (gotD zs) (reqZ zs) rfl rfl rfl w4 t4.1); clear t4)
        | (go_at_call 37; (with_reducible refine HR.out.mono ?_); rintro e w5 ⟨u, rfl, ou, t5⟩; clear HR; obtain ⟨A, c, rfl, hc, ru, bu⟩ := ou.form; have O5 := Lib.hid (O4.out.trans t5.2); have H5 := H4.out.only t5.2 (by have := O2.out.size; have := HP.out; omega); have q5 : w5.cell? ⟨w2.heap.size, 2, none⟩ = some nilV := H5.at 2; have f5 := H5.soft 2; have H6 : Hid (Has (w5.setCell ⟨w2.heap.size, 2, none⟩ (.slice A (gotD zs).length c)) w2.heap.size 24 (qc (reqK zs) (reqN zs) (.slice A (gotD zs).length c))) := Lib.hid (qc_put H5 _); have L6 := Lib.hid (ld24 H6.out); have O6 := Lib.hid (O5.out.setNew (q := ⟨w2.heap.size, 2, none⟩) (by have := O2.out.size; omega) (.slice A (gotD zs).length c)); have R6 := Lib.hid (t5.1.only (P := fun b => b = w2.heap.size) (only_cell w5 w2.heap.size 2 (.slice A (gotD zs).length c)) (fun b e => by have := O2.out.size; have := HP.out; have := HT.out; omega)); have HQ := Lib.hid (rightReq_any (reqK zs) (reqN zs) A (gotD zs).length c (w5.setCell ⟨w2.heap.size, 2, none⟩ (.slice A (gotD zs).length c))); rw [HX.out] at HQ; clear t5 H5 ou)
        | (refine wpList_ld 24 _ rfl _ _ L6.out rfl rfl ?_)
        | (go_at_call 17; (with_reducible refine HQ.out.mono ?_); rintro e w7 ⟨rfl, b7⟩; clear HQ L6))
      go_ret
      refine ⟨_, _, rfl, R6.out.only (P := fun _ => False) (Only.of_below b7) (fun b hb => hb.elim), O6.out.below b7, .inl ⟨rfl, fun g => ?_⟩⟩
      have := HX.out
      rw [gotD_good HB.out g, List.length_drop, g.2] at this
      cases this
    | true =>
      have HX := Lib.hid hx
      clear hx
      go_enter Try.func22, Try.ntmps22
      go_wp2_with (first
        | (go_at_call 36; (with_reducible refine HK1.out.mono ?_); rintro e w1 ⟨rfl, t1⟩; clear HK1; have O1 := Lib.hid t1.2; have HK2 := Lib.hid (num_k 1 4 5 (reqN zs) 4 cut8_4 rfl rfl w1 t1.1); clear t1)
        | (go_at_call 36; (with_reducible refine HK2.out.mono ?_); rintro e w2 ⟨rfl, t2⟩; clear HK2; have O2 := Lib.hid (O1.out.trans t2.2); have R2 := Lib.hid (t2.1.only (P := fun _ => False) (Only.of_below ((Below.refl _ _).alloc (Nat.le_refl _) (.cells (qc 0 0 nilV) 24))) (fun b hb => hb.elim)); have hne := has_new w2 24 (qc 0 0 nilV); clear t2)
        | (refine wpList_build_to rfl 24 _ rfl _ (built24b _ _) ?_)
        | (refine wpList_row rfl 24 _ _ rfl w2.heap.size (qc (reqK zs) (reqN zs) nilV) rfl rfl 24 _ hne (size24 _ _ _) rfl (qc_all _ _ _ _ _) ?_; intro w3 hs3 on3; have O3 := Lib.hid ((O2.out.alloc (.cells (qc 0 0 nilV) 24)).below' (on3.to_below (by have := O2.out.size; simp; omega) (fun b e => by have := O2.out.size; omega))); have H3 := Lib.hid hs3; have R3 := R2.out.only on3 (fun b e => by have := O2.out.size; have := HP.out; have := HT.out; omega); have HK3 := Lib.hid (num_k 5 2 7 (reqZ zs) 2 cut8_2 rfl rfl w3 R3); clear R3 R2 on3 hs3)
        | (go_at_call 36; (with_reducible refine HK3.out.mono ?_); rintro e w4 ⟨rfl, t4⟩; clear HK3; have O4 := Lib.hid (O3.out.trans t4.2); have H4 := Lib.hid (H3.out.only t4.2 (by have := O2.out.size; have := HP.out; omega)); have HR := Lib.hid (raw_k 7 _ _ (gotD zs) (reqZ zs) rfl rfl rfl w4 t4.1); have Z4 := Lib.hid (show w2.heap.size < w4.heap.size from H4.out.size); clear t4)
        | (go_at_call 37; (with_reducible refine HR.out.mono ?_); rintro e w5 ⟨u, rfl, ou, t5⟩; clear HR; obtain ⟨A, c, rfl, hc, ru, bu⟩ := ou.form; have O5 := Lib.hid (O4.out.trans t5.2); have H5 := H4.out.only t5.2 (by have := O2.out.size; have := HP.out; omega); have q5 : w5.cell? ⟨w2.heap.size, 2, none⟩ = some nilV := H5.at 2; have f5 := H5.soft 2; have H6 : Hid (Has (w5.setCell ⟨w2.heap.size, 2, none⟩ (.slice A (gotD zs).length c)) w2.heap.size 24 (qc (reqK zs) (reqN zs) (.slice A (gotD zs).length c))) := Lib.hid (qc_put H5 _); have L6 := Lib.hid (ld24 H6.out); have O6 := Lib.hid (O5.out.setNew (q := ⟨w2.heap.size, 2, none⟩) (by have := O2.out.size; omega) (.slice A (gotD zs).length c)); have R6 := Lib.hid (t5.1.only (P := fun b => b = w2.heap.size) (only_cell w5 w2.heap.size 2 (.slice A (gotD zs).length c)) (fun b e => by have := O2.out.size; have := HP.out; have := HT.out; omega)); have U6 : Hid (Own (w5.setCell ⟨w2.heap.size, 2, none⟩ (.slice A (gotD zs).length c)) w.heap.size (.slice A (gotD zs).length c) (gotD zs).length (gotD zs)) := Lib.hid ((own_by ou (fun g h1 h2 => heap_setCell_other w5 ⟨w2.heap.size, 2, none⟩ g _ (by have := Z4.out; show g ≠ w2.heap.size; omega))).lower O4.out.size); have HQ := Lib.hid (rightReq_any (reqK zs) (reqN zs) A (gotD zs).length c (w5.setCell ⟨w2.heap.size, 2, none⟩ (.slice A (gotD zs).length c))); rw [HX.out] at HQ; clear t5 H5 ou)
        | (refine wpList_ld 24 _ rfl _ _ L6.out rfl rfl ?_)
        | (go_at_call 17; (with_reducible refine HQ.out.mono ?_); rintro e w7 ⟨rfl, b7⟩; clear HQ L6; have L7 := Lib.hid (ld24 (H6.out.kept b7)); have hmk := mkI24 (.agg (qc (reqK zs) (reqN zs) (.slice A (gotD zs).length c))))
        | (refine wpList_ld 24 _ rfl _ _ L7.out rfl rfl ?_))
      go_ret
      exact ⟨_, _, rfl, R6.out.only (P := fun _ => False) (Only.of_below b7) (fun b hb => hb.elim), O6.out.below b7, .inr ⟨by omega, HX.out, rfl, _, rfl, U6.out.kept b7⟩⟩
/-- What readResp answers, and where the reader is then. -/
def ReadR (zs : List Int) (p T : Nat) (w : World) (e : Ending) (w' : World) : Prop := ∃ v, e = .returned v ∧ Rd w' p T (St zs 9) ∧ Only (fun b => b = p) w w' ∧
  ((v = .nilIface ∧ respB (respS zs) = false) ∨ (v = .iface 27 (.agg (respS zs).cells) ∧ respB (respS zs) = true))
set_option maxRecDepth 100000 in
set_option maxHeartbeats 4000000 in
theorem readResp_any {p T : Nat} {zs : List Int} (w : World) (hS : Rd w p T (St zs 0)) :
    Calls Try.prog 27 #[.pointer (some ⟨p, 0, none⟩)] w (ReadR zs p T w) := by
  have hz27 := zero27_run
  have HP := Lib.hid hS.at
  have HT := Lib.hid hS.2.1
  have HK1 := Lib.hid (num_k 0 1 1 (respS zs).err 1 cut8_1 rfl rfl w hS)
  clear hS
  cases hx : respB (respS zs) with
  | false =>
    have HX := Lib.hid hx
    clear hx
    go_enter Try.func27, Try.ntmps27
    go_wp2_with (first
      | (go_at_call 36; (with_reducible refine HK1.out.mono ?_); rintro e w1 ⟨rfl, t1⟩; clear HK1; have O1 := Lib.hid t1.2; have HK2 := Lib.hid (num_k 1 4 5 (respS zs).num 4 cut8_4 rfl rfl w1 t1.1); clear t1)
      | (go_at_call 36; (with_reducible refine HK2.out.mono ?_); rintro e w2 ⟨rfl, t2⟩; clear HK2; have O2 := Lib.hid (O1.out.trans t2.2); have HK3 := Lib.hid (num_k 5 4 9 (respS zs).gott 4 cut8_4 rfl rfl w2 t2.1); clear t2)
      | (go_at_call 36; (with_reducible refine HK3.out.mono ?_); rintro e w3 ⟨rfl, t3⟩; clear HK3; have O3 := Lib.hid (O2.out.trans t3.2); have R3 := Lib.hid (t3.1.only (P := fun _ => False) (Only.of_below ((Below.refl _ _).alloc (Nat.le_refl _) (.cells zeroR.cells 27))) (fun b hb => hb.elim)); have hne := has_new w3 27 zeroR.cells; clear t3)
      | (refine wpList_build_to rfl 27 _ rfl _ (built27b _ _ _) ?_)
      | (refine wpList_row rfl 27 _ _ rfl w3.heap.size (respS zs).cells rfl rfl 27 _ hne (size27 _) rfl (rp_all _) ?_; intro w4 hs4 on4; have O4 := Lib.hid ((O3.out.alloc (.cells zeroR.cells 27)).below' (on4.to_below (by have := O3.out.size; simp; omega) (fun b e => by have := O3.out.size; omega))); have H4 := Lib.hid hs4; have L4 := Lib.hid (ld27 hs4); have R4 := Lib.hid (R3.out.only on4 (fun b e => by have := O3.out.size; have := HP.out; have := HT.out; omega)); have HQ := Lib.hid (rightResp_any (respS zs) w4); rw [HX.out] at HQ; clear R3 on4 hs4)
      | (refine wpList_ld 27 _ rfl _ _ L4.out rfl rfl ?_)
      | (go_at_call 29; (with_reducible refine HQ.out.mono ?_); rintro e w7 ⟨rfl, b7⟩; clear HQ L4; have L7 := Lib.hid (ld27 (H4.out.kept b7)); have hmk := mkI27 (.agg (respS zs).cells))
      | (refine wpList_ld 27 _ rfl _ _ L7.out rfl rfl ?_))
    go_ret
    exact ⟨_, rfl, R4.out.only (P := fun _ => False) (Only.of_below b7) (fun b hb => hb.elim), O4.out.below b7, .inl ⟨rfl, HX.out⟩⟩
  | true =>
    have HX := Lib.hid hx
    clear hx
    go_enter Try.func27, Try.ntmps27
    go_wp2_with (first
      | (go_at_call 36; (with_reducible refine HK1.out.mono ?_); rintro e w1 ⟨rfl, t1⟩; clear HK1; have O1 := Lib.hid t1.2; have HK2 := Lib.hid (num_k 1 4 5 (respS zs).num 4 cut8_4 rfl rfl w1 t1.1); clear t1)
      | (go_at_call 36; (with_reducible refine HK2.out.mono ?_); rintro e w2 ⟨rfl, t2⟩; clear HK2; have O2 := Lib.hid (O1.out.trans t2.2); have HK3 := Lib.hid (num_k 5 4 9 (respS zs).gott 4 cut8_4 rfl rfl w2 t2.1); clear t2)
      | (go_at_call 36; (with_reducible refine HK3.out.mono ?_); rintro e w3 ⟨rfl, t3⟩; clear HK3; have O3 := Lib.hid (O2.out.trans t3.2); have R3 := Lib.hid (t3.1.only (P := fun _ => False) (Only.of_below ((Below.refl _ _).alloc (Nat.le_refl _) (.cells zeroR.cells 27))) (fun b hb => hb.elim)); have hne := has_new w3 27 zeroR.cells; clear t3)
      | (refine wpList_build_to rfl 27 _ rfl _ (built27b _ _ _) ?_)
      | (refine wpList_row rfl 27 _ _ rfl w3.heap.size (respS zs).cells rfl rfl 27 _ hne (size27 _) rfl (rp_all _) ?_; intro w4 hs4 on4; have O4 := Lib.hid ((O3.out.alloc (.cells zeroR.cells 27)).below' (on4.to_below (by have := O3.out.size; simp; omega) (fun b e => by have := O3.out.size; omega))); have H4 := Lib.hid hs4; have L4 := Lib.hid (ld27 hs4); have R4 := Lib.hid (R3.out.only on4 (fun b e => by have := O3.out.size; have := HP.out; have := HT.out; omega)); have HQ := Lib.hid (rightResp_any (respS zs) w4); rw [HX.out] at HQ; clear R3 on4 hs4)
      | (refine wpList_ld 27 _ rfl _ _ L4.out rfl rfl ?_)
      | (go_at_call 29; (with_reducible refine HQ.out.mono ?_); rintro e w7 ⟨rfl, b7⟩; clear HQ L4; have L7 := Lib.hid (ld27 (H4.out.kept b7)); have hmk := mkI27 (.agg (respS zs).cells))
      | (refine wpList_ld 27 _ rfl _ _ L7.out rfl rfl ?_))
    go_ret
    exact ⟨_, rfl, R4.out.only (P := fun _ => False) (Only.of_below b7) (fun b hb => hb.elim), O4.out.below b7, .inr ⟨rfl, HX.out⟩⟩
end Go.Proofs.Ytjfgnoidoeaaeaa
