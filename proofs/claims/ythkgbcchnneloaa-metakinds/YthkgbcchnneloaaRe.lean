/-
  How what is kept is read, the program's Read; conditions: the row reads as bytes.
-/
import Derived.Test.YthkgbcchnneloaaTm
import Derived.Test.YthkgbcchnneloaaRg
namespace Go.Proofs.Ythkgbcchnneloaa
open Go.RowKit
set_option linter.unusedVariables false
set_option linter.unusedSimpArgs false

/-- Results: what is kept lies in a block, and one more. -/
theorem results_row2 {fn : Func} {p u : Tmp} (h : fn.results = #[.cell p 27, .tmp u]) (tmps : Array Value) (w : World) (g : Nat) (m : Mt)
    (hp : tmps.getD p undef = .pointer (some ⟨g, 0, none⟩)) (hg : Has w g 27 m.cells) (hl : m.Ok) :
    (results fn tmps).run Try.prog w = .ok (.tuple #[.agg m.cells, tmps.getD u undef]) w := by
  have hp' : tmps[p]?.getD undef = .pointer (some ⟨g, 0, none⟩) := by simpa using hp
  have hr := run_loadVar_row w g 27 27 m.cells (0, 0) _ hg Try.underlying27 rfl (size27 hl)
  simp [results, h, hp', asAddr, hr]
/-- What Read answers. -/
def ReadsM (zs : List Int) (w : World) (e : Ending) (w' : World) : Prop := e = .returned (.tuple #[.agg (readM zs).cells, .int .i64 (readE zs)]) ∧ Below w.heap.size w w'
theorem reads_none {zs : List Int} {w w' : World} (h : ¬ Good zs) (hb : Below w.heap.size w w') : ReadsM zs w (.returned (.tuple #[.agg zeroT.cells, .int .i64 6])) w' := ⟨by rw [readM_no h, readE_no h], hb⟩
theorem reads_yes {zs : List Int} {w w' : World} (h : Good zs) (hb : Below w.heap.size w w') : ReadsM zs w (.returned (.tuple #[.agg (toldS zs).cells, .int .i64 0])) w' := ⟨by rw [readM_yes h, readE_yes h], hb⟩
set_option maxRecDepth 100000 in
set_option maxHeartbeats 4000000 in
theorem read_any (A : Option Addr) (n c : Nat) (zs : List Int) (w : World) (hr : Row w A n zs) (hc : n ≤ c) (hn : n ≤ 1000000) : Calls Try.prog 9 #[.slice A n c] w (ReadsM zs w) := by
  have hz27 := zero27_run
  have hl := hr.1
  have C0 : Hid (Below w.heap.size w (w.alloc (.cells zeroT.cells 27))) := Lib.hid ((Below.refl _ _).alloc (Nat.le_refl _) _)
  have h0 := has_new w 27 zeroT.cells
  by_cases h128 : n < 128
  · have HG := Lib.hid (not_short (zs := zs) (by omega))
    have hlt : (n : Int) < 128 := by omega
    clear hr
    go_enter Try.func9, Try.ntmps9
    go_wp2_with (first
      | (refine wpList_build_to rfl 27 _ rfl _ built27 ?_)
      | (refine wpList_store_row rfl 27 _ _ rfl w.heap.size zeroT.cells rfl rfl 27 _ h0 (size27 zeroT_ok) rfl (mt_all _) ?_))
    exact bodyPost_ret (results_row2 (p := 2) (u := 3) rfl _ _ w.heap.size zeroT rfl (setRow_heap _ _ _ _ _ _ h0) zeroT_ok) rfl (reads_none HG.out (below_setRow C0.out (Nat.le_refl _) _))
  · have hge : ¬ (n : Int) < 128 := by omega
    have hHB := Lib.hid hr.2.1
    have hA := row_lies hr
    obtain ⟨A1, e1, r1, l1⟩ := row_cut hr hA 128 (by omega) hc
    obtain ⟨A2, e2, r2, l2⟩ := row_head hr hA 128 (by omega) hc
    have R1 : ∀ W, (Instr.sliceAt 28 (.slice A n c) (some (.int .i64 128)) none none).run Try.prog W = .ok (.slice A1 (n - 128) (c - 128)) W := fun W => by rw [← e1]; exact run_from W A n c .i64 128 (by omega) hc
    have R2 : ∀ W, (Instr.sliceAt 28 (.slice A n c) none (some (.int .i64 128)) none).run Try.prog W = .ok (.slice A2 128 c) W := fun W => by rw [← e2]; exact run_upto W A n c .i64 128 (by omega)
    have HZ := Lib.hid (allZero_any A1 (n - 128) (c - 128) (zs.drop 128) _ (row_lt r1 (Nat.le_refl _) C0.out) (by omega))
    have HH0 := Lib.hid h0
    have hl2 : (zs.take 128).length = 128 := by rw [List.length_take]; omega
    have HNR := Lib.hid (newReader_any A2 128 c (zs.take 128) _ (row_lt r2 (Nat.le_refl _) C0.out) (by omega))
    have HTK := Lib.hid (toldS_take (zs := zs) (by omega))
    have HLN := Lib.hid (show 128 ≤ zs.length by omega)
    have HBT := Lib.hid (byt_take hr.2.1 128)
    clear r1 r2 hr hl hl2 hA e1 e2 l1 l2
    cases hz : (zs.drop 128).all (fun x => x == 0) with
    | false =>
      rw [hz] at HZ
      have HG := Lib.hid (show ¬ Good zs from fun g => by rw [g.2.1] at hz; cases hz)
      clear hz
      go_enter Try.func9, Try.ntmps9
      go_wp2_with (first
        | (go_at_call 19; (with_reducible refine HZ.out.mono ?_); rintro e w1 ⟨rfl, rfl⟩)
        | (refine wpList_build_to rfl 27 _ rfl _ built27 ?_)
        | (refine wpList_store_row rfl 27 _ _ rfl w.heap.size zeroT.cells rfl rfl 27 _ HH0.out (size27 zeroT_ok) rfl (mt_all _) ?_))
      exact bodyPost_ret (results_row2 (p := 2) (u := 3) rfl _ _ w.heap.size zeroT rfl (setRow_heap _ _ _ _ _ _ HH0.out) zeroT_ok) rfl (reads_none HG.out (below_setRow C0.out (Nat.le_refl _) _))
    | true =>
      rw [hz] at HZ
      have HAL := Lib.hid hz
      clear hz
      have HOK := Lib.hid (toldS_ok HBT.out)
      have key : ∀ x : Bool, rightB (toldS zs) = x → Calls Try.prog 9 #[.slice A n c] w (ReadsM zs w) := by
        intro x hx
        have HX := Lib.hid hx
        clear hx
        cases x with
        | false =>
          have HG := Lib.hid (show ¬ Good zs from fun g => by have h := g.2.2; rw [HX.out] at h; cases h)
          go_enter Try.func9, Try.ntmps9
          go_wp2_with (first
            | (go_at_call 19; (with_reducible refine HZ.out.mono ?_); rintro e w1 ⟨rfl, rfl⟩; clear HZ)
            | (go_at_call 21; (with_reducible refine HNR.out.mono ?_); rintro e w2 ⟨p, rfl, hp, hd, b2⟩; clear HNR; have H2 := Lib.hid (HH0.out.kept b2); have C2 := Lib.hid (C0.out.trans (b2.mono C0.out.size)); have HPP := Lib.hid hp; rw [← st_zero (zs.take 128)] at hd; have HRM := Lib.hid (readMeta_any w2 HBT.out hd); clear hp hd b2)
            | (go_at_call 20; (with_reducible refine HRM.out.mono ?_); rintro e w3 ⟨rfl, t3⟩; clear HRM; have H3 := Lib.hid (Has.only H2.out t3.2 (by have := HPP.out; simp at this; omega)); have C3 := Lib.hid (C2.out.trans (t3.2.to_below C2.out.size (fun b e => by have := HPP.out; simp at this; omega))); clear t3; have hne := has_new w3 27 zeroT.cells)
            | (refine wpList_row rfl 27 _ _ rfl w3.heap.size (toldS (zs.take 128)).cells rfl rfl 27 _ hne (size27 HOK.out) (old27 zeroT_ok HOK.out) (mt_all _) ?_; intro w4 hs4 on4; have C4 := Lib.hid ((C3.out.alloc C3.out.size (.cells zeroT.cells 27)).trans (on4.to_below (C3.out.alloc C3.out.size (.cells zeroT.cells 27)).size (fun b e => by have := C3.out.size; omega))); have H4 := Lib.hid (Has.only (H3.out.more (.cells zeroT.cells 27)) on4 (by have := H3.out.size; omega)); have L4 := Lib.hid (ld27 hs4 HOK.out); have HRT := Lib.hid (right_any (toldS (zs.take 128)) w4 HOK.out); rw [HTK.out, HX.out] at HRT; clear hs4 on4 hne)
            | (refine wpList_ld 27 _ rfl _ _ L4.out rfl rfl ?_; rw [HTK.out])
            | (go_at_call 11; (with_reducible refine HRT.out.mono ?_); rintro e w5 ⟨rfl, b5⟩; clear HRT; have H5 := Lib.hid (H4.out.kept b5); have C5 := Lib.hid (C4.out.trans (b5.mono C4.out.size)); clear b5)
            | (refine wpList_build_to rfl 27 _ rfl _ built27 ?_)
            | (refine wpList_store_row rfl 27 _ _ rfl w.heap.size zeroT.cells rfl rfl 27 _ H5.out (size27 zeroT_ok) rfl (mt_all _) ?_))
          exact bodyPost_ret (results_row2 (p := 2) (u := 3) rfl _ _ w.heap.size zeroT rfl (setRow_heap _ _ _ _ _ _ H5.out) zeroT_ok) rfl (reads_none HG.out (below_setRow C5.out (Nat.le_refl _) _))
        | true =>
          have HG := Lib.hid (show Good zs from ⟨HLN.out, HAL.out, HX.out⟩)
          go_enter Try.func9, Try.ntmps9
          go_wp2_with (first
            | (go_at_call 19; (with_reducible refine HZ.out.mono ?_); rintro e w1 ⟨rfl, rfl⟩; clear HZ)
            | (go_at_call 21; (with_reducible refine HNR.out.mono ?_); rintro e w2 ⟨p, rfl, hp, hd, b2⟩; clear HNR; have H2 := Lib.hid (HH0.out.kept b2); have C2 := Lib.hid (C0.out.trans (b2.mono C0.out.size)); have HPP := Lib.hid hp; rw [← st_zero (zs.take 128)] at hd; have HRM := Lib.hid (readMeta_any w2 HBT.out hd); clear hp hd b2)
            | (go_at_call 20; (with_reducible refine HRM.out.mono ?_); rintro e w3 ⟨rfl, t3⟩; clear HRM; have H3 := Lib.hid (Has.only H2.out t3.2 (by have := HPP.out; simp at this; omega)); have C3 := Lib.hid (C2.out.trans (t3.2.to_below C2.out.size (fun b e => by have := HPP.out; simp at this; omega))); clear t3; have hne := has_new w3 27 zeroT.cells)
            | (refine wpList_row rfl 27 _ _ rfl w3.heap.size (toldS (zs.take 128)).cells rfl rfl 27 _ hne (size27 HOK.out) (old27 zeroT_ok HOK.out) (mt_all _) ?_; intro w4 hs4 on4; have C4 := Lib.hid ((C3.out.alloc C3.out.size (.cells zeroT.cells 27)).trans (on4.to_below (C3.out.alloc C3.out.size (.cells zeroT.cells 27)).size (fun b e => by have := C3.out.size; omega))); have H4 := Lib.hid (Has.only (H3.out.more (.cells zeroT.cells 27)) on4 (by have := H3.out.size; omega)); have L4 := Lib.hid (ld27 hs4 HOK.out); have HRT := Lib.hid (right_any (toldS (zs.take 128)) w4 HOK.out); rw [HTK.out, HX.out] at HRT; have HS4 := Lib.hid hs4; clear hs4 on4 hne)
            | (refine wpList_ld 27 _ rfl _ _ L4.out rfl rfl ?_; rw [HTK.out])
            | (go_at_call 11; (with_reducible refine HRT.out.mono ?_); rintro e w5 ⟨rfl, b5⟩; clear HRT L4; have H5 := Lib.hid (H4.out.kept b5); have C5 := Lib.hid (C4.out.trans (b5.mono C4.out.size)); have HS5 := Lib.hid (Has.kept HS4.out b5); clear b5; have L5 := Lib.hid (ld27 HS5.out HOK.out))
            | (refine wpList_ld 27 _ rfl _ _ L5.out rfl rfl ?_; rw [HTK.out])
            | (refine wpList_store_row rfl 27 _ _ rfl w.heap.size (toldS zs).cells rfl rfl 27 _ H5.out (size27 (toldS_ok hHB.out)) (old27 zeroT_ok (toldS_ok hHB.out)) (mt_all _) ?_))
          exact bodyPost_ret (results_row2 (p := 2) (u := 3) rfl _ _ w.heap.size (toldS zs) rfl (setRow_heap _ _ _ _ _ _ H5.out) (toldS_ok hHB.out)) rfl (reads_yes HG.out (below_setRow C5.out (Nat.le_refl _) _))
      exact key _ rfl
end Go.Proofs.Ythkgbcchnneloaa
