/-
  The walk of the law UpdateWorn: where nothing can be written nothing is turned, and what runs runs on; conditions: none.
-/
import Derived.Test.YtcokpdhhpaahgaaDoorVd
namespace Go.Proofs.YtcokpdhhpaahgaaDoor.updateWorn
open Go.RowKit
set_option linter.unusedVariables false
set_option linter.unusedSimpArgs false

theorem ld34 {W : World} {g k : Nat} {x : Int} (h : W.cell? ⟨g, k, none⟩ = some (.int .i64 x)) : (Instr.loadAt 34 (.pointer (some ⟨g, k, none⟩))).run Tryd.prog W = .ok (.int .i64 x) W := by
  go_simp
set_option maxRecDepth 100000 in
set_option maxHeartbeats 40000000 in
theorem walk (m : Mt) (q : Rq) (f : Fc) (quota : Int) (w : World) (hm : m.Ok) (hq : QIn w q) (hf : f.Ok) (wq : (Lit.int .i64 quota).wf = true) :
    Calls Tryd.prog 5 #[.agg m.cells, .agg q.cells, .agg f.cells, .int .i64 quota] w fun e w' => e = .returned (.bool true) ∧ Below w.heap.size w w' := by
  have hz27 := zero27_run
  have hz36 := zero36_run
  have HLV := Lib.hid (alive_any (((w.alloc (.cells m.cells 27)).alloc (.cells q.cells 30)).alloc (.cells f.cells 32)))
  have hqu : I64 quota := bounds_i64 wq
  have G := Lib.hid (lq_new q w hm hf)
  have HR0 := fun b h W => docRight_is (m := m) W hm b h
  cases hb : rightB m with
  | false =>
    have HR := Lib.hid (HR0 false hb)
    clear HR0 hb
    go_enter Tryd.func5, Tryd.ntmps5
    go_wp2_with (first
      | (go_at_call 9; (with_reducible refine HLV.out.mono ?_); rintro e w1 ⟨rfl, b1⟩; replace G := Lib.hid (G.out.kept b1); clear b1 HLV)
      | (go_at_call 16; (with_reducible refine (HR.out _).mono ?_); rintro e w1 ⟨rfl, b1⟩; replace G := Lib.hid (G.out.kept b1); clear b1 HR)
      | (refine wpList_ld 27 _ rfl _ _ (ld27 G.out.hm G.out.ok) rfl rfl ?_))
    go_ret
    exact ⟨rfl, G.out.hb⟩
  | true =>
  have HR := Lib.hid (HR0 true hb)
  clear HR0
  by_cases hl : 1000 < (q.len : Int)
  · have dl : decide (1000 < (q.len : Int)) = true := decide_eq_true hl
    go_enter Tryd.func5, Tryd.ntmps5
    go_wp2_with (first
      | (go_at_call 9; (with_reducible refine HLV.out.mono ?_); rintro e w1 ⟨rfl, b1⟩; replace G := Lib.hid (G.out.kept b1); clear b1 HLV)
      | (go_at_call 16; (with_reducible refine (HR.out _).mono ?_); rintro e w1 ⟨rfl, b1⟩; replace G := Lib.hid (G.out.kept b1); clear b1 HR)
      | (refine wpList_ld 27 _ rfl _ _ (ld27 G.out.hm G.out.ok) rfl rfl ?_)
      | (refine wpList_ld 28 _ rfl _ _ (ld28 (seen_q G.out.hq).bytes) rfl rfl ?_))
    go_ret
    exact ⟨rfl, G.out.hb⟩
  have dl : decide (1000 < (q.len : Int)) = false := decide_eq_false hl
  have HA0 := fun B hB => asks m q f.wear quota w hm (wear_ok hf) hqu hq (by omega) B hB
  obtain ⟨e1, e5, e9, eo⟩ := worn_step (kind := q.kind) (num := q.num) (bs := q.bs) (f := f) (quota := quota) hb
  obtain ⟨x, hx⟩ : ∃ x, stepM m q.kind q.num q.bs f.wear quota = x := ⟨_, rfl⟩
  simp only [hx] at HA0 e1 e5 e9 eo
  obtain ⟨xm, xr⟩ := x
  simp only at e1 e5 e9 eo
  subst e1
  have HA := Lib.hid HA0
  clear HA0 hx hb hl hqu wq
  obtain ⟨kind, num, A, len, cap, bs⟩ := q
  simp only at e5 e9 eo dl
  by_cases k5 : kind = 5
  · subst k5
    obtain rfl : xr = ⟨0, xm.act, 0⟩ := e5 rfl
    clear e5 e9 eo
    go_enter Tryd.func5, Tryd.ntmps5
    go_wp2_with (first
      | (go_at_call 9; (with_reducible refine HLV.out.mono ?_); rintro e w1 ⟨rfl, b1⟩; replace G := Lib.hid (G.out.kept b1); clear b1 HLV)
      | (go_at_call 16; (with_reducible refine (HR.out _).mono ?_); rintro e w1 ⟨rfl, b1⟩; replace G := Lib.hid (G.out.kept b1); clear b1 HR)
      | (refine wpList_ld 28 _ rfl _ _ (ld28 (seen_q G.out.hq).bytes) rfl rfl ?_)
      | (refine wpList_worn rfl _ _ rfl (w.heap.size + 1 + 1) rfl rfl f G.out.hf G.out.okf ?_; intro w1 hs on; replace G := Lib.hid (G.out.wear hs on); clear hs on)
      | (refine wpList_ld 27 _ rfl _ _ (ld27 G.out.hm G.out.ok) rfl rfl ?_)
      | (refine wpList_ld 30 _ rfl _ _ (seen_q G.out.hq).all rfl rfl ?_)
      | (refine wpList_ld 32 _ rfl _ _ (seen_f G.out.hf G.out.okf).all rfl rfl ?_)
      | (refine wpList_ld 3 _ rfl _ _ (ld3 (seen_q G.out.hq).kind) rfl rfl ?_)
      | (refine wpList_ld 3 _ rfl _ _ (ld3 (seen_of G.out.hm G.out.ok).act) rfl rfl ?_)
      | (go_at_call 10; (with_reducible refine (HA.out _ G.out.hb).mono ?_); rintro e wc ⟨rfl, b1⟩; replace G := Lib.hid (G.out.kept b1); have R := Lib.hid (nq_new G.out.high); replace G := Lib.hid G.out.two; clear b1 HA)
      | (refine wpList_row rfl 27 _ _ rfl wc.heap.size _ rfl rfl 27 _ R.out.hm (size27 G.out.ok) (old27 R.out.ok G.out.ok) (mt_all _) ?_; intro w1 hs on; replace R := Lib.hid (R.out.setm G.out.ok hs on); replace G := Lib.hid (G.out.only on R.out.hp); clear hs on)
      | (refine wpList_row rfl 36 _ _ rfl (wc.heap.size + 1) _ rfl rfl 36 _ R.out.hr (size36 _) rfl (rp_all _) ?_; intro w1 hs on; replace R := Lib.hid (R.out.setr hs on); replace G := Lib.hid (G.out.only on (by have := R.out.hp; omega)); clear hs on)
      | (refine wpList_ld 27 _ rfl _ _ (ld27 R.out.hm R.out.ok) rfl rfl ?_)
      | (refine wpList_ld 36 _ rfl _ _ (ld36 R.out.hr) rfl rfl ?_)
      | (refine wpList_ld 34 _ rfl _ _ (ld34 (R.out.hr.at 0)) rfl rfl ?_)
      | (refine wpList_neT _ _ rfl xm xm rfl rfl G.out.ok rfl rfl ?_)
      | (refine wpList_eqR _ _ rfl ⟨0, xm.act, 0⟩ ⟨0, xm.act, 0⟩ rfl rfl rfl rfl ?_))
    go_ret
    exact ⟨rfl, G.out.hb⟩
  by_cases k9 : kind = 9
  · subst k9
    have e := e9 rfl
    obtain ⟨xe, xn, xg⟩ := xr
    simp only at e
    subst e
    clear e5 e9 eo
    go_enter Tryd.func5, Tryd.ntmps5
    go_wp2_with (first
      | (go_at_call 9; (with_reducible refine HLV.out.mono ?_); rintro e w1 ⟨rfl, b1⟩; replace G := Lib.hid (G.out.kept b1); clear b1 HLV)
      | (go_at_call 16; (with_reducible refine (HR.out _).mono ?_); rintro e w1 ⟨rfl, b1⟩; replace G := Lib.hid (G.out.kept b1); clear b1 HR)
      | (refine wpList_ld 28 _ rfl _ _ (ld28 (seen_q G.out.hq).bytes) rfl rfl ?_)
      | (refine wpList_worn rfl _ _ rfl (w.heap.size + 1 + 1) rfl rfl f G.out.hf G.out.okf ?_; intro w1 hs on; replace G := Lib.hid (G.out.wear hs on); clear hs on)
      | (refine wpList_ld 27 _ rfl _ _ (ld27 G.out.hm G.out.ok) rfl rfl ?_)
      | (refine wpList_ld 30 _ rfl _ _ (seen_q G.out.hq).all rfl rfl ?_)
      | (refine wpList_ld 32 _ rfl _ _ (seen_f G.out.hf G.out.okf).all rfl rfl ?_)
      | (refine wpList_ld 3 _ rfl _ _ (ld3 (seen_q G.out.hq).kind) rfl rfl ?_)
      | (refine wpList_ld 3 _ rfl _ _ (ld3 (seen_of G.out.hm G.out.ok).act) rfl rfl ?_)
      | (go_at_call 10; (with_reducible refine (HA.out _ G.out.hb).mono ?_); rintro e wc ⟨rfl, b1⟩; replace G := Lib.hid (G.out.kept b1); have R := Lib.hid (nq_new G.out.high); replace G := Lib.hid G.out.two; clear b1 HA)
      | (refine wpList_row rfl 27 _ _ rfl wc.heap.size _ rfl rfl 27 _ R.out.hm (size27 G.out.ok) (old27 R.out.ok G.out.ok) (mt_all _) ?_; intro w1 hs on; replace R := Lib.hid (R.out.setm G.out.ok hs on); replace G := Lib.hid (G.out.only on R.out.hp); clear hs on)
      | (refine wpList_row rfl 36 _ _ rfl (wc.heap.size + 1) _ rfl rfl 36 _ R.out.hr (size36 _) rfl (rp_all _) ?_; intro w1 hs on; replace R := Lib.hid (R.out.setr hs on); replace G := Lib.hid (G.out.only on (by have := R.out.hp; omega)); clear hs on)
      | (refine wpList_ld 27 _ rfl _ _ (ld27 R.out.hm R.out.ok) rfl rfl ?_)
      | (refine wpList_ld 36 _ rfl _ _ (ld36 R.out.hr) rfl rfl ?_)
      | (refine wpList_ld 34 _ rfl _ _ (ld34 (R.out.hr.at 0)) rfl rfl ?_)
      | (refine wpList_neT _ _ rfl xm xm rfl rfl G.out.ok rfl rfl ?_))
    go_ret
    exact ⟨rfl, G.out.hb⟩
  have e := eo k5 k9
  obtain ⟨xe, xn, xg⟩ := xr
  simp only at e
  have d5 : (kind == 5) = false := by simp [k5]
  have d9 : (kind == 9) = false := by simp [k9]
  have de : (xe != 0) = true := by simp [e]
  clear e5 e9 eo
  go_enter Tryd.func5, Tryd.ntmps5
  go_wp2_with (first
    | (go_at_call 9; (with_reducible refine HLV.out.mono ?_); rintro e w1 ⟨rfl, b1⟩; replace G := Lib.hid (G.out.kept b1); clear b1 HLV)
    | (go_at_call 16; (with_reducible refine (HR.out _).mono ?_); rintro e w1 ⟨rfl, b1⟩; replace G := Lib.hid (G.out.kept b1); clear b1 HR)
    | (refine wpList_ld 28 _ rfl _ _ (ld28 (seen_q G.out.hq).bytes) rfl rfl ?_)
    | (refine wpList_worn rfl _ _ rfl (w.heap.size + 1 + 1) rfl rfl f G.out.hf G.out.okf ?_; intro w1 hs on; replace G := Lib.hid (G.out.wear hs on); clear hs on)
    | (refine wpList_ld 27 _ rfl _ _ (ld27 G.out.hm G.out.ok) rfl rfl ?_)
    | (refine wpList_ld 30 _ rfl _ _ (seen_q G.out.hq).all rfl rfl ?_)
    | (refine wpList_ld 32 _ rfl _ _ (seen_f G.out.hf G.out.okf).all rfl rfl ?_)
    | (refine wpList_ld 3 _ rfl _ _ (ld3 (seen_q G.out.hq).kind) rfl rfl ?_)
    | (refine wpList_ld 3 _ rfl _ _ (ld3 (seen_of G.out.hm G.out.ok).act) rfl rfl ?_)
    | (go_at_call 10; (with_reducible refine (HA.out _ G.out.hb).mono ?_); rintro e wc ⟨rfl, b1⟩; replace G := Lib.hid (G.out.kept b1); have R := Lib.hid (nq_new G.out.high); replace G := Lib.hid G.out.two; clear b1 HA)
    | (refine wpList_row rfl 27 _ _ rfl wc.heap.size _ rfl rfl 27 _ R.out.hm (size27 G.out.ok) (old27 R.out.ok G.out.ok) (mt_all _) ?_; intro w1 hs on; replace R := Lib.hid (R.out.setm G.out.ok hs on); replace G := Lib.hid (G.out.only on R.out.hp); clear hs on)
    | (refine wpList_row rfl 36 _ _ rfl (wc.heap.size + 1) _ rfl rfl 36 _ R.out.hr (size36 _) rfl (rp_all _) ?_; intro w1 hs on; replace R := Lib.hid (R.out.setr hs on); replace G := Lib.hid (G.out.only on (by have := R.out.hp; omega)); clear hs on)
    | (refine wpList_ld 27 _ rfl _ _ (ld27 R.out.hm R.out.ok) rfl rfl ?_)
    | (refine wpList_ld 36 _ rfl _ _ (ld36 R.out.hr) rfl rfl ?_)
    | (refine wpList_ld 34 _ rfl _ _ (ld34 (R.out.hr.at 0)) rfl rfl ?_)
    | (refine wpList_neT _ _ rfl xm xm rfl rfl G.out.ok rfl rfl ?_))
  go_ret
  exact ⟨rfl, G.out.hb⟩
end Go.Proofs.YtcokpdhhpaahgaaDoor.updateWorn
