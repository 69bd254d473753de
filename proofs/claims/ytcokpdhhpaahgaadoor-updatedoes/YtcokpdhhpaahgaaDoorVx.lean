/-
  The walk of the law UpdateDoes: what any request does to what is kept, and what is answered; conditions: none.
-/
import Derived.Test.YtcokpdhhpaahgaaDoorVd
import Derived.Test.YtcokpdhhpaahgaaDoorUy
namespace Go.Proofs.YtcokpdhhpaahgaaDoor
open Go.RowKit
set_option linter.unusedVariables false
set_option linter.unusedSimpArgs false

theorem Nq.two {w0 w : World} {p : Nat} {m : Mt} {r : Rp} (h : Nq w0 p m r w) : Nq w0 p m r ((w.alloc (.cells zeroT.cells 27)).alloc (.cells zeroR.cells 36)) :=
  h.kept (((Below.refl _ _).alloc (Nat.le_refl _) _).alloc (by simp) _)
theorem rasks (m : Mt) (q : Rq) (f : Fc) (quota : Int) (w : World) (hm : m.Ok) (hf : f.Ok) (hqu : I64 quota) (hq : QIn w q) (hn : q.len ≤ 1000) (B : World) (hB : Below w.heap.size w B) :
    Calls Tryd.prog 11 #[.agg m.cells, .agg q.cells, .agg f.cells, .int .i64 quota] B (Does (stepM m q.kind q.num q.bs f quota) B) :=
  rdo_any m q f quota B hm hf hqu hq.kind hq.num (row_lt hq.row (Nat.le_refl _) hB) hq.cap (by omega)
theorem i64_num (n : Nat) (h : n ≤ 1000000) : I64 (n : Int) := by unfold I64; omega
namespace updateDoes
theorem after {p c : Nat} (h : p + 1 < c) : c ≠ p ∧ c ≠ p + 1 ∧ c + 1 ≠ p ∧ c + 1 ≠ p + 1 := by omega
set_option maxRecDepth 100000 in
set_option maxHeartbeats 40000000 in
theorem walk (m : Mt) (q : Rq) (f : Fc) (quota size n : Int) (w : World) (hm : m.Ok) (hq : QIn w q) (hf : f.Ok) (wq : (Lit.int .i64 quota).wf = true) (ws : (Lit.int .i64 size).wf = true) (wn : (Lit.int .i64 n).wf = true) :
    Calls Tryd.prog 3 #[.agg m.cells, .agg q.cells, .agg f.cells, .int .i64 quota, .int .i64 size, .int .i64 n] w fun e w' => e = .returned (.bool true) ∧ Below w.heap.size w w' := by
  have hz27 := zero27_run
  have hz36 := zero36_run
  have HLV := Lib.hid (alive_any (((w.alloc (.cells m.cells 27)).alloc (.cells q.cells 30)).alloc (.cells f.cells 32)))
  have hqu : I64 quota := bounds_i64 wq
  have hsz : I64 size := bounds_i64 ws
  have hn : I64 n := bounds_i64 wn
  have G := Lib.hid (lq_new q w hm hf)
  by_cases hl : 1000 < (q.len : Int)
  · have dl : decide (1000 < (q.len : Int)) = true := decide_eq_true hl
    go_enter Tryd.func3, Tryd.ntmps3
    go_wp2_with (first
      | (go_at_call 9; (with_reducible refine HLV.out.mono ?_); rintro e w1 ⟨rfl, b1⟩; replace G := Lib.hid (G.out.kept b1); clear b1 HLV)
      | (refine wpList_ld 28 _ rfl _ _ (ld28 (seen_q G.out.hq).bytes) rfl rfl ?_))
    go_ret
    exact ⟨rfl, G.out.hb⟩
  have dl : decide (1000 < (q.len : Int)) = false := decide_eq_false hl
  have HA0 := fun B hB => asks m q f quota w hm hf hqu hq (by omega) B hB
  have HB0 := fun B hB => rasks m q f quota w hm hf hqu hq (by omega) B hB
  have hxo : (stepM m q.kind q.num q.bs f quota).1.Ok := step_ok hm hq.row.2.1
  obtain ⟨x, hx⟩ : ∃ x, stepM m q.kind q.num q.bs f quota = x := ⟨_, rfl⟩
  rw [hx] at hxo
  simp only [hx] at HA0 HB0
  obtain ⟨xm, xr⟩ := x
  simp only at hxo
  have HA := Lib.hid HA0
  have HB := Lib.hid HB0
  have XO := Lib.hid hxo
  have H12 : Hid (∀ W, Calls Tryd.prog 12 #[.int .i64 size] W fun e w' => e = .returned (.int .i64 (chunkI size)) ∧ W = w') := Lib.hid fun W => chunksI_any size W hsz
  have H13 : Hid (∀ W, Calls Tryd.prog 13 #[.int .i64 size] W fun e w' => e = .returned (.int .i64 (chunkI size)) ∧ W = w') := Lib.hid fun W => rchunksI_any size W hsz
  have H14 : Hid (∀ W, Calls Tryd.prog 14 #[.int .i64 size, .int .i64 n] W fun e w' => e = .returned (.int .i64 (lenI size n)) ∧ W = w') := Lib.hid fun W => lenI_any size n W hsz hn
  have H15 : Hid (∀ W, Calls Tryd.prog 15 #[.int .i64 size, .int .i64 n] W fun e w' => e = .returned (.int .i64 (lenI size n)) ∧ W = w') := Lib.hid fun W => rlenI_any size n W hsz hn
  clear HA0 HB0 hx hl hqu wq ws wn hxo hq
  obtain ⟨c, hc⟩ : ∃ c, chunkI size = c := ⟨_, rfl⟩
  obtain ⟨l, hle⟩ : ∃ l, lenI size n = l := ⟨_, rfl⟩
  simp only [hc] at H12 H13
  simp only [hle] at H14 H15
  clear hc hle
  obtain ⟨kind, num, A, len, cap, bs⟩ := q
  simp only at dl
  go_enter Tryd.func3, Tryd.ntmps3
  go_wp2_with (first
    | (go_at_call 9; (with_reducible refine HLV.out.mono ?_); rintro e w1 ⟨rfl, b1⟩; replace G := Lib.hid (G.out.kept b1); clear b1 HLV)
    | (refine wpList_ld 28 _ rfl _ _ (ld28 (seen_q G.out.hq).bytes) rfl rfl ?_)
    | (refine wpList_ld 27 _ rfl _ _ (ld27 G.out.hm G.out.ok) rfl rfl ?_)
    | (refine wpList_ld 30 _ rfl _ _ (seen_q G.out.hq).all rfl rfl ?_)
    | (refine wpList_ld 32 _ rfl _ _ (seen_f G.out.hf G.out.okf).all rfl rfl ?_)
    | (go_at_call 10; (with_reducible refine (HA.out _ G.out.hb).mono ?_); rintro e wc ⟨rfl, b1⟩; replace G := Lib.hid (G.out.kept b1); have R := Lib.hid (nq_new G.out.high); replace G := Lib.hid G.out.two; clear b1 HA)
    | (refine wpList_row rfl 27 _ _ rfl wc.heap.size _ rfl rfl 27 _ R.out.hm (size27 XO.out) (old27 R.out.ok XO.out) (mt_all _) ?_; intro w1 hs on; replace R := Lib.hid (R.out.setm XO.out hs on); replace G := Lib.hid (G.out.only on R.out.hp); clear hs on)
    | (refine wpList_row rfl 36 _ _ rfl (wc.heap.size + 1) _ rfl rfl 36 _ R.out.hr (size36 _) rfl (rp_all _) ?_; intro w1 hs on; replace R := Lib.hid (R.out.setr hs on); replace G := Lib.hid (G.out.only on (by have := R.out.hp; omega)); clear hs on)
    | (go_at_call 11; (with_reducible refine (HB.out _ G.out.hb).mono ?_); rintro e wd ⟨rfl, b1⟩; replace G := Lib.hid (G.out.kept b1); replace R := Lib.hid (R.out.kept b1); have LT := Lib.hid (after (c := wd.heap.size) R.out.hr.size); have S := Lib.hid (nq_new G.out.high); replace G := Lib.hid G.out.two; replace R := Lib.hid R.out.two; clear b1 HB)
    | (refine wpList_row rfl 27 _ _ rfl wd.heap.size _ rfl rfl 27 _ S.out.hm (size27 XO.out) (old27 S.out.ok XO.out) (mt_all _) ?_; intro w1 hs on; replace S := Lib.hid (S.out.setm XO.out hs on); replace G := Lib.hid (G.out.only on S.out.hp); replace R := Lib.hid (R.out.only on LT.out.1 LT.out.2.1); clear hs on)
    | (refine wpList_row rfl 36 _ _ rfl (wd.heap.size + 1) _ rfl rfl 36 _ S.out.hr (size36 _) rfl (rp_all _) ?_; intro w1 hs on; replace S := Lib.hid (S.out.setr hs on); replace G := Lib.hid (G.out.only on (by have := S.out.hp; omega)); replace R := Lib.hid (R.out.only on LT.out.2.2.1 LT.out.2.2.2); clear hs on)
    | (refine wpList_ld 27 _ rfl _ _ (ld27 R.out.hm R.out.ok) rfl rfl ?_)
    | (refine wpList_ld 27 _ rfl _ _ (ld27 S.out.hm S.out.ok) rfl rfl ?_)
    | (refine wpList_ld 36 _ rfl _ _ (ld36 R.out.hr) rfl rfl ?_)
    | (refine wpList_ld 36 _ rfl _ _ (ld36 S.out.hr) rfl rfl ?_)
    | (go_at_call 12; (with_reducible refine (H12.out _).mono ?_); rintro e wx ⟨rfl, rfl⟩)
    | (go_at_call 13; (with_reducible refine (H13.out _).mono ?_); rintro e wx ⟨rfl, rfl⟩)
    | (go_at_call 14; (with_reducible refine (H14.out _).mono ?_); rintro e wx ⟨rfl, rfl⟩)
    | (go_at_call 15; (with_reducible refine (H15.out _).mono ?_); rintro e wx ⟨rfl, rfl⟩)
    | (refine wpList_eqT _ _ rfl xm xm rfl rfl XO.out rfl rfl ?_)
    | (refine wpList_eqR _ _ rfl xr xr rfl rfl rfl rfl ?_))
  go_ret
  exact ⟨rfl, G.out.hb⟩
end updateDoes
end Go.Proofs.YtcokpdhhpaahgaaDoor
