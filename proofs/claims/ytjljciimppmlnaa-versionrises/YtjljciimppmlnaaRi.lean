/-
  The walk of the law VersionRises: the least version never falls, what was confirmed may come again, and nothing below it; conditions: none.
-/
import Derived.Test.YtjljciimppmlnaaVf
namespace Go.Proofs.Ytjljciimppmlnaa
open Go.RowKit
set_option linter.unusedVariables false
set_option linter.unusedSimpArgs false

/-- Of the blocks that are there only those of p may have turned. -/
structure Only (p : Nat → Prop) (w w' : World) : Prop where
  os : w'.os = w.os
  tape : w'.tape = w.tape
  output : w'.output = w.output
  size : w.heap.size ≤ w'.heap.size
  block : ∀ b, b < w.heap.size → ¬ p b → w'.heap[b]? = w.heap[b]?
theorem Only.to_below {p : Nat → Prop} {w w' : World} {B : Nat} (h : Only p w w') (hB : B ≤ w.heap.size) (hp : ∀ b, p b → B ≤ b) : Below B w w' :=
  ⟨h.os, h.tape, h.output, h.size, fun b hb => h.block b (by omega) fun e => by have := hp b e; omega⟩
theorem only_set (w : World) (q : Addr) (v : Value) : Only (fun b => b = q.block) w (w.setCell q v) :=
  ⟨rfl, rfl, rfl, by simp [World.setCell], fun b hb hp => Below.heap_setCell _ _ _ _ (fun e => hp e)⟩
/-- A number stored into what is kept; the world behind it under a name. -/
theorem wpList_st3 {w : World} {ops : Array Oper} {rest : List Oper} {o : Oper} {a : Act} {Q : Exit → Act → World → Prop} (hgd : o.guard = none) (x y : Operand) (ho : o.op = .store 3 x y)
    (g k : Nat) (z : Int) (hx : a.eval x = .pointer (some ⟨g, k, none⟩)) (hy : a.eval y = .int .i64 z) (m m' : Mt) (hg : Has w g 27 m.cells) (hk : k < 107) (hc : m.cells.setIfInBounds k (.int .i64 z) = m'.cells) (hm : m.Ok)
    (h : ∀ w', Has w' g 27 m'.cells → Only (fun b => b = g) w w' → wpList Try.prog ops Q rest (a.put o.dst undef) w') : wpList Try.prog ops Q (o :: rest) a w :=
  wpList_plain hgd fun K hK => by
    have hs := mt_size hm
    obtain ⟨old, hold⟩ : ∃ old, w.cell? ⟨g, k, none⟩ = some old := by rw [hg.at k]; exact ⟨_, Array.getElem?_eq_getElem (by omega)⟩
    have hf := hg.soft k
    have hp := hg.put k (.int .i64 z)
    rw [hc] at hp
    have ex := h _ hp (only_set w ⟨g, k, none⟩ _)
    have e : (Instr.storeAt 3 (.pointer (some ⟨g, k, none⟩)) (.int .i64 z)).run Try.prog w = .ok () (w.setCell ⟨g, k, none⟩ (.int .i64 z)) := by
      go_simp
    unfold Oper.wp execOp
    simp only [ho, hx, hy, Sem.run_bind, e, Result.andThen_ok]
    exact hK _ _ ex
theorem i64_one : I64 1 := by unfold I64; omega
theorem mt_set1 {m : Mt} (v : Int) (h : m.Ok) : m.cells.setIfInBounds 1 (.int .i64 v) = Mt.cells { m with h0 := { m.h0 with ver := v } } := by simp [Mt.cells, Mt.list, Im.list]
theorem mt_set35 {m : Mt} (v : Int) (h : m.Ok) : m.cells.setIfInBounds 35 (.int .i64 v) = Mt.cells { m with h1 := { m.h1 with ver := v } } := by
  have l0 := iml_len h.h0
  simp only [Mt.cells, Mt.list, List.setIfInBounds_toArray]
  rw [show 35 = 34 + 1 by omega, List.set_cons_succ, List.set_append_right _ _ (by omega), l0]
  rfl
theorem conf_is0 (m : Mt) (v : Int) (h : 1 ≤ v) : confN { m with act := 0, h1 := { m.h1 with ver := v } } = if m.least < v then v else m.least := by
  show (if v ≤ 0 then m.least else if m.least < v then v else m.least) = _
  rw [if_neg (by omega)]
theorem conf_is1 (m : Mt) (v : Int) (h : 1 ≤ v) : confN { m with act := 1, h0 := { m.h0 with ver := v } } = if m.least < v then v else m.least := by
  show (if v ≤ 0 then m.least else if m.least < v then v else m.least) = _
  rw [if_neg (by omega)]
theorem and1 (n : Int) : bits .and .i64 n 1 = 0 ∨ bits .and .i64 n 1 = 1 := by
  have h7 : (BitVec.ofInt 64 1).toNat = 1 := by decide
  obtain ⟨x, hx⟩ : ∃ x, (BitVec.ofInt 64 n).toNat = x := ⟨_, rfl⟩
  have key : (BitVec.ofInt 64 n &&& BitVec.ofInt 64 1).toNat = x &&& 1 := by rw [BitVec.toNat_and, h7, hx]
  have h1 : x &&& 1 ≤ 1 := Nat.and_le_right
  have e : bits .and .i64 n 1 = IntKind.i64.wrap ((BitVec.ofInt 64 n &&& BitVec.ofInt 64 1).toNat : Nat) := rfl
  rw [e, key, IntKind.wrap_i64]
  omega
end Go.Proofs.Ytjljciimppmlnaa
namespace Go.Proofs.Ytjljciimppmlnaa.versionRises
open Go.RowKit
set_option linter.unusedVariables false
set_option linter.unusedSimpArgs false

set_option maxRecDepth 100000 in
set_option maxHeartbeats 4000000 in
theorem walk (m : Mt) (v : Int) (w : World) (hm : m.Ok) (wv : (Lit.int .i64 v).wf = true) :
    Calls Try.prog 4 #[.agg m.cells, .int .i64 v] w fun e w' => e = .returned (.bool true) ∧ Below w.heap.size w w' := by
  have C0 : Hid (Below w.heap.size w (w.alloc (.cells m.cells 27))) := Lib.hid ((Below.refl _ _).alloc (Nat.le_refl _) _)
  have H0 := Lib.hid (has_new w 27 m.cells)
  have HLV := Lib.hid (alive_any (w.alloc (.cells m.cells 27)))
  have HM := Lib.hid hm
  have HV := Lib.hid (show I64 v from bounds_i64 wv)
  clear hm wv
  by_cases h1 : m.least < 0
  · clear HV
    go_enter Try.func4, Try.ntmps4
    go_wp2_with (first
      | (go_at_call 5; (with_reducible refine HLV.out.mono ?_); rintro e w1 ⟨rfl, b1⟩; clear HLV; have H1 := Lib.hid (H0.out.kept b1); have C1 := Lib.hid (C0.out.trans (b1.mono C0.out.size)); clear b1; have c69 := (seen_of H1.out HM.out).least; have c0 := (seen_of H1.out HM.out).act))
    go_ret
    exact ⟨rfl, C1.out⟩
  by_cases h2 : 1073741824 < m.least
  · clear HV
    go_enter Try.func4, Try.ntmps4
    go_wp2_with (first
      | (go_at_call 5; (with_reducible refine HLV.out.mono ?_); rintro e w1 ⟨rfl, b1⟩; clear HLV; have H1 := Lib.hid (H0.out.kept b1); have C1 := Lib.hid (C0.out.trans (b1.mono C0.out.size)); clear b1; have c69 := (seen_of H1.out HM.out).least; have c0 := (seen_of H1.out HM.out).act))
    go_ret
    exact ⟨rfl, C1.out⟩
  by_cases h3n : v < 1
  · clear HV
    go_enter Try.func4, Try.ntmps4
    go_wp2_with (first
      | (go_at_call 5; (with_reducible refine HLV.out.mono ?_); rintro e w1 ⟨rfl, b1⟩; clear HLV; have H1 := Lib.hid (H0.out.kept b1); have C1 := Lib.hid (C0.out.trans (b1.mono C0.out.size)); clear b1; have c69 := (seen_of H1.out HM.out).least; have c0 := (seen_of H1.out HM.out).act))
    go_ret
    exact ⟨rfl, C1.out⟩
  have h3 : 1 ≤ v := by omega
  by_cases h4 : 1073741824 < v
  · have d4 : decide (1073741824 < v) = true := decide_eq_true h4
    clear HV
    go_enter Try.func4, Try.ntmps4
    go_wp2_with (first
      | (go_at_call 5; (with_reducible refine HLV.out.mono ?_); rintro e w1 ⟨rfl, b1⟩; clear HLV; have H1 := Lib.hid (H0.out.kept b1); have C1 := Lib.hid (C0.out.trans (b1.mono C0.out.size)); clear b1; have c69 := (seen_of H1.out HM.out).least; have c0 := (seen_of H1.out HM.out).act))
    go_ret
    exact ⟨rfl, C1.out⟩
  have d4 : decide (1073741824 < v) = false := decide_eq_false h4
  rcases and1 m.act with ha | ha
  · have hand : bits .and .i64 m.act 1 = 0 := ha
    by_cases e : m.least < v
    · have OK1 := Lib.hid (show Mt.Ok { m with act := 0 } from ⟨HM.out.h0, HM.out.h1, HM.out.com, i64_zero, HM.out.least, HM.out.phase, HM.out.gott, HM.out.trials⟩)
      have OK2 := Lib.hid (show Mt.Ok { m with act := 0, h1 := { m.h1 with ver := v } } from ⟨HM.out.h0, ⟨HM.out.h1.1, HM.out.h1.2.1, HV.out, HM.out.h1.2.2.2⟩, HM.out.com, i64_zero, HM.out.least, HM.out.phase, HM.out.gott, HM.out.trials⟩)
      have OK3 := Lib.hid (show Mt.Ok { m with act := 0, h1 := { m.h1 with ver := v }, least := v } from ⟨HM.out.h0, ⟨HM.out.h1.1, HM.out.h1.2.1, HV.out, HM.out.h1.2.2.2⟩, HM.out.com, i64_zero, HV.out, HM.out.phase, HM.out.gott, HM.out.trials⟩)
      have HCN := Lib.hid (show confN { m with act := 0, h1 := { m.h1 with ver := v } } = v from (conf_is0 m v h3).trans (if_pos e))
      have HM1 := Lib.hid (show mayV { m with act := 0, h1 := { m.h1 with ver := v }, least := v } (v) = true from decide_eq_true (show _ ∧ _ ∧ v ≤ v by omega))
      have HM2 := Lib.hid (show mayV { m with act := 0, h1 := { m.h1 with ver := v }, least := v } (v - 1) = false from decide_eq_false (fun h => by have h' : v ≤ v - 1 := h.2.2; omega))
      have t1 : decide (v < m.least) = false := decide_eq_false (by omega)
      have t3 : ¬ v = m.least := by omega
      clear ha e
      go_enter Try.func4, Try.ntmps4
      go_wp2_with (first
        | (go_at_call 5; (with_reducible refine HLV.out.mono ?_); rintro e w1 ⟨rfl, b1⟩; clear HLV; have H1 := Lib.hid (H0.out.kept b1); have C1 := Lib.hid (C0.out.trans (b1.mono C0.out.size)); clear b1; have c69 := (seen_of H1.out HM.out).least; have c0 := (seen_of H1.out HM.out).act)
        | (refine wpList_st3 rfl _ _ rfl w.heap.size 0 0 rfl rfl m { m with act := 0 } H1.out (by omega) (mt_set0 m 0) HM.out ?_; intro w2 hs2 on2; have H2 := Lib.hid hs2; have C2 := Lib.hid (C1.out.trans (on2.to_below C1.out.size (fun b e => by omega))); clear hs2 on2; clear c69 c0; have c0 := (seen_of H2.out OK1.out).act)
        | (refine wpList_st3 rfl _ _ rfl w.heap.size 35 v rfl rfl { m with act := 0 } { m with act := 0, h1 := { m.h1 with ver := v } } H2.out (by omega) (mt_set35 v OK1.out) OK1.out ?_; intro w3 hs3 on3; have H3 := Lib.hid hs3; have C3 := Lib.hid (C2.out.trans (on3.to_below C2.out.size (fun b e => by omega))); clear hs3 on3; clear c0; have L3 := Lib.hid (ld27 H3.out OK2.out); have HF := Lib.hid (confirm_any _ w3 OK2.out); rw [HCN.out] at HF)
        | (refine wpList_ld 27 _ rfl _ _ L3.out rfl rfl ?_)
        | (go_at_call 8; (with_reducible refine HF.out.mono ?_); rintro e w4 ⟨rfl, b4⟩; clear HF L3; have H4 := Lib.hid (H3.out.kept b4); have C4 := Lib.hid (C3.out.trans (b4.mono C3.out.size)); clear b4; have c69 : w4.cell? ⟨w.heap.size, 69, none⟩ = some (.int .i64 m.least) := (seen_of H4.out OK2.out).least)
        | (refine wpList_st3 rfl _ _ rfl w.heap.size 69 v rfl rfl { m with act := 0, h1 := { m.h1 with ver := v } } { m with act := 0, h1 := { m.h1 with ver := v }, least := v } H4.out (by omega) (mt_set69 v OK2.out) OK2.out ?_; intro w5 hs5 on5; have H5 := Lib.hid hs5; have C5 := Lib.hid (C4.out.trans (on5.to_below C4.out.size (fun b e => by omega))); clear hs5 on5; clear c69; have L5 := Lib.hid (ld27 H5.out OK3.out); have HA := Lib.hid (may_any _ (v) w5 OK3.out); rw [HM1.out] at HA)
        | (refine wpList_ld 27 _ rfl _ _ L5.out rfl rfl ?_)
        | (go_at_call 6; (with_reducible refine HA.out.mono ?_); rintro e w6 ⟨rfl, b6⟩; clear HA L5; have H6 := Lib.hid (H5.out.kept b6); have C6 := Lib.hid (C5.out.trans (b6.mono C5.out.size)); clear b6; have L6 := Lib.hid (ld27 H6.out OK3.out); have HB := Lib.hid (may_any _ (v - 1) w6 OK3.out); rw [HM2.out] at HB)
        | (refine wpList_ld 27 _ rfl _ _ L6.out rfl rfl ?_)
        | (go_at_call 6; (with_reducible refine HB.out.mono ?_); rintro e w7 ⟨rfl, b7⟩; clear HB; have C7 := Lib.hid (C6.out.trans (b7.mono C6.out.size)); clear b7))
      go_ret
      exact ⟨rfl, C7.out⟩
    · have OK1 := Lib.hid (show Mt.Ok { m with act := 0 } from ⟨HM.out.h0, HM.out.h1, HM.out.com, i64_zero, HM.out.least, HM.out.phase, HM.out.gott, HM.out.trials⟩)
      have OK2 := Lib.hid (show Mt.Ok { m with act := 0, h1 := { m.h1 with ver := v } } from ⟨HM.out.h0, ⟨HM.out.h1.1, HM.out.h1.2.1, HV.out, HM.out.h1.2.2.2⟩, HM.out.com, i64_zero, HM.out.least, HM.out.phase, HM.out.gott, HM.out.trials⟩)
      have OK3 := Lib.hid (show Mt.Ok { m with act := 0, h1 := { m.h1 with ver := v }, least := m.least } from ⟨HM.out.h0, ⟨HM.out.h1.1, HM.out.h1.2.1, HV.out, HM.out.h1.2.2.2⟩, HM.out.com, i64_zero, HM.out.least, HM.out.phase, HM.out.gott, HM.out.trials⟩)
      have HCN := Lib.hid (show confN { m with act := 0, h1 := { m.h1 with ver := v } } = m.least from (conf_is0 m v h3).trans (if_neg e))
      have HM1 := Lib.hid (show mayV { m with act := 0, h1 := { m.h1 with ver := v }, least := m.least } (m.least) = true from decide_eq_true (show _ ∧ _ ∧ m.least ≤ m.least by omega))
      have HM2 := Lib.hid (show mayV { m with act := 0, h1 := { m.h1 with ver := v }, least := m.least } (m.least - 1) = false from decide_eq_false (fun h => by have h' : m.least ≤ m.least - 1 := h.2.2; omega))
      have t1 : decide (m.least < v) = false := decide_eq_false (by omega)
      clear ha e
      go_enter Try.func4, Try.ntmps4
      go_wp2_with (first
        | (go_at_call 5; (with_reducible refine HLV.out.mono ?_); rintro e w1 ⟨rfl, b1⟩; clear HLV; have H1 := Lib.hid (H0.out.kept b1); have C1 := Lib.hid (C0.out.trans (b1.mono C0.out.size)); clear b1; have c69 := (seen_of H1.out HM.out).least; have c0 := (seen_of H1.out HM.out).act)
        | (refine wpList_st3 rfl _ _ rfl w.heap.size 0 0 rfl rfl m { m with act := 0 } H1.out (by omega) (mt_set0 m 0) HM.out ?_; intro w2 hs2 on2; have H2 := Lib.hid hs2; have C2 := Lib.hid (C1.out.trans (on2.to_below C1.out.size (fun b e => by omega))); clear hs2 on2; clear c69 c0; have c0 := (seen_of H2.out OK1.out).act)
        | (refine wpList_st3 rfl _ _ rfl w.heap.size 35 v rfl rfl { m with act := 0 } { m with act := 0, h1 := { m.h1 with ver := v } } H2.out (by omega) (mt_set35 v OK1.out) OK1.out ?_; intro w3 hs3 on3; have H3 := Lib.hid hs3; have C3 := Lib.hid (C2.out.trans (on3.to_below C2.out.size (fun b e => by omega))); clear hs3 on3; clear c0; have L3 := Lib.hid (ld27 H3.out OK2.out); have HF := Lib.hid (confirm_any _ w3 OK2.out); rw [HCN.out] at HF)
        | (refine wpList_ld 27 _ rfl _ _ L3.out rfl rfl ?_)
        | (go_at_call 8; (with_reducible refine HF.out.mono ?_); rintro e w4 ⟨rfl, b4⟩; clear HF L3; have H4 := Lib.hid (H3.out.kept b4); have C4 := Lib.hid (C3.out.trans (b4.mono C3.out.size)); clear b4; have c69 : w4.cell? ⟨w.heap.size, 69, none⟩ = some (.int .i64 m.least) := (seen_of H4.out OK2.out).least)
        | (refine wpList_st3 rfl _ _ rfl w.heap.size 69 m.least rfl rfl { m with act := 0, h1 := { m.h1 with ver := v } } { m with act := 0, h1 := { m.h1 with ver := v }, least := m.least } H4.out (by omega) (mt_set69 m.least OK2.out) OK2.out ?_; intro w5 hs5 on5; have H5 := Lib.hid hs5; have C5 := Lib.hid (C4.out.trans (on5.to_below C4.out.size (fun b e => by omega))); clear hs5 on5; clear c69; have L5 := Lib.hid (ld27 H5.out OK3.out); have HA := Lib.hid (may_any _ (m.least) w5 OK3.out); rw [HM1.out] at HA)
        | (refine wpList_ld 27 _ rfl _ _ L5.out rfl rfl ?_)
        | (go_at_call 6; (with_reducible refine HA.out.mono ?_); rintro e w6 ⟨rfl, b6⟩; clear HA L5; have H6 := Lib.hid (H5.out.kept b6); have C6 := Lib.hid (C5.out.trans (b6.mono C5.out.size)); clear b6; have L6 := Lib.hid (ld27 H6.out OK3.out); have HB := Lib.hid (may_any _ (m.least - 1) w6 OK3.out); rw [HM2.out] at HB)
        | (refine wpList_ld 27 _ rfl _ _ L6.out rfl rfl ?_)
        | (go_at_call 6; (with_reducible refine HB.out.mono ?_); rintro e w7 ⟨rfl, b7⟩; clear HB; have C7 := Lib.hid (C6.out.trans (b7.mono C6.out.size)); clear b7))
      go_ret
      exact ⟨rfl, C7.out⟩
  · have hand : bits .and .i64 m.act 1 = 1 := ha
    by_cases e : m.least < v
    · have OK1 := Lib.hid (show Mt.Ok { m with act := 1 } from ⟨HM.out.h0, HM.out.h1, HM.out.com, i64_one, HM.out.least, HM.out.phase, HM.out.gott, HM.out.trials⟩)
      have OK2 := Lib.hid (show Mt.Ok { m with act := 1, h0 := { m.h0 with ver := v } } from ⟨⟨HM.out.h0.1, HM.out.h0.2.1, HV.out, HM.out.h0.2.2.2⟩, HM.out.h1, HM.out.com, i64_one, HM.out.least, HM.out.phase, HM.out.gott, HM.out.trials⟩)
      have OK3 := Lib.hid (show Mt.Ok { m with act := 1, h0 := { m.h0 with ver := v }, least := v } from ⟨⟨HM.out.h0.1, HM.out.h0.2.1, HV.out, HM.out.h0.2.2.2⟩, HM.out.h1, HM.out.com, i64_one, HV.out, HM.out.phase, HM.out.gott, HM.out.trials⟩)
      have HCN := Lib.hid (show confN { m with act := 1, h0 := { m.h0 with ver := v } } = v from (conf_is1 m v h3).trans (if_pos e))
      have HM1 := Lib.hid (show mayV { m with act := 1, h0 := { m.h0 with ver := v }, least := v } (v) = true from decide_eq_true (show _ ∧ _ ∧ v ≤ v by omega))
      have HM2 := Lib.hid (show mayV { m with act := 1, h0 := { m.h0 with ver := v }, least := v } (v - 1) = false from decide_eq_false (fun h => by have h' : v ≤ v - 1 := h.2.2; omega))
      have t1 : decide (v < m.least) = false := decide_eq_false (by omega)
      have t3 : ¬ v = m.least := by omega
      clear ha e
      go_enter Try.func4, Try.ntmps4
      go_wp2_with (first
        | (go_at_call 5; (with_reducible refine HLV.out.mono ?_); rintro e w1 ⟨rfl, b1⟩; clear HLV; have H1 := Lib.hid (H0.out.kept b1); have C1 := Lib.hid (C0.out.trans (b1.mono C0.out.size)); clear b1; have c69 := (seen_of H1.out HM.out).least; have c0 := (seen_of H1.out HM.out).act)
        | (refine wpList_st3 rfl _ _ rfl w.heap.size 0 1 rfl rfl m { m with act := 1 } H1.out (by omega) (mt_set0 m 1) HM.out ?_; intro w2 hs2 on2; have H2 := Lib.hid hs2; have C2 := Lib.hid (C1.out.trans (on2.to_below C1.out.size (fun b e => by omega))); clear hs2 on2; clear c69 c0; have c0 := (seen_of H2.out OK1.out).act)
        | (refine wpList_st3 rfl _ _ rfl w.heap.size 1 v rfl rfl { m with act := 1 } { m with act := 1, h0 := { m.h0 with ver := v } } H2.out (by omega) (mt_set1 v OK1.out) OK1.out ?_; intro w3 hs3 on3; have H3 := Lib.hid hs3; have C3 := Lib.hid (C2.out.trans (on3.to_below C2.out.size (fun b e => by omega))); clear hs3 on3; clear c0; have L3 := Lib.hid (ld27 H3.out OK2.out); have HF := Lib.hid (confirm_any _ w3 OK2.out); rw [HCN.out] at HF)
        | (refine wpList_ld 27 _ rfl _ _ L3.out rfl rfl ?_)
        | (go_at_call 8; (with_reducible refine HF.out.mono ?_); rintro e w4 ⟨rfl, b4⟩; clear HF L3; have H4 := Lib.hid (H3.out.kept b4); have C4 := Lib.hid (C3.out.trans (b4.mono C3.out.size)); clear b4; have c69 : w4.cell? ⟨w.heap.size, 69, none⟩ = some (.int .i64 m.least) := (seen_of H4.out OK2.out).least)
        | (refine wpList_st3 rfl _ _ rfl w.heap.size 69 v rfl rfl { m with act := 1, h0 := { m.h0 with ver := v } } { m with act := 1, h0 := { m.h0 with ver := v }, least := v } H4.out (by omega) (mt_set69 v OK2.out) OK2.out ?_; intro w5 hs5 on5; have H5 := Lib.hid hs5; have C5 := Lib.hid (C4.out.trans (on5.to_below C4.out.size (fun b e => by omega))); clear hs5 on5; clear c69; have L5 := Lib.hid (ld27 H5.out OK3.out); have HA := Lib.hid (may_any _ (v) w5 OK3.out); rw [HM1.out] at HA)
        | (refine wpList_ld 27 _ rfl _ _ L5.out rfl rfl ?_)
        | (go_at_call 6; (with_reducible refine HA.out.mono ?_); rintro e w6 ⟨rfl, b6⟩; clear HA L5; have H6 := Lib.hid (H5.out.kept b6); have C6 := Lib.hid (C5.out.trans (b6.mono C5.out.size)); clear b6; have L6 := Lib.hid (ld27 H6.out OK3.out); have HB := Lib.hid (may_any _ (v - 1) w6 OK3.out); rw [HM2.out] at HB)
        | (refine wpList_ld 27 _ rfl _ _ L6.out rfl rfl ?_)
        | (go_at_call 6; (with_reducible refine HB.out.mono ?_); rintro e w7 ⟨rfl, b7⟩; clear HB; have C7 := Lib.hid (C6.out.trans (b7.mono C6.out.size)); clear b7))
      go_ret
      exact ⟨rfl, C7.out⟩
    · have OK1 := Lib.hid (show Mt.Ok { m with act := 1 } from ⟨HM.out.h0, HM.out.h1, HM.out.com, i64_one, HM.out.least, HM.out.phase, HM.out.gott, HM.out.trials⟩)
      have OK2 := Lib.hid (show Mt.Ok { m with act := 1, h0 := { m.h0 with ver := v } } from ⟨⟨HM.out.h0.1, HM.out.h0.2.1, HV.out, HM.out.h0.2.2.2⟩, HM.out.h1, HM.out.com, i64_one, HM.out.least, HM.out.phase, HM.out.gott, HM.out.trials⟩)
      have OK3 := Lib.hid (show Mt.Ok { m with act := 1, h0 := { m.h0 with ver := v }, least := m.least } from ⟨⟨HM.out.h0.1, HM.out.h0.2.1, HV.out, HM.out.h0.2.2.2⟩, HM.out.h1, HM.out.com, i64_one, HM.out.least, HM.out.phase, HM.out.gott, HM.out.trials⟩)
      have HCN := Lib.hid (show confN { m with act := 1, h0 := { m.h0 with ver := v } } = m.least from (conf_is1 m v h3).trans (if_neg e))
      have HM1 := Lib.hid (show mayV { m with act := 1, h0 := { m.h0 with ver := v }, least := m.least } (m.least) = true from decide_eq_true (show _ ∧ _ ∧ m.least ≤ m.least by omega))
      have HM2 := Lib.hid (show mayV { m with act := 1, h0 := { m.h0 with ver := v }, least := m.least } (m.least - 1) = false from decide_eq_false (fun h => by have h' : m.least ≤ m.least - 1 := h.2.2; omega))
      have t1 : decide (m.least < v) = false := decide_eq_false (by omega)
      clear ha e
      go_enter Try.func4, Try.ntmps4
      go_wp2_with (first
        | (go_at_call 5; (with_reducible refine HLV.out.mono ?_); rintro e w1 ⟨rfl, b1⟩; clear HLV; have H1 := Lib.hid (H0.out.kept b1); have C1 := Lib.hid (C0.out.trans (b1.mono C0.out.size)); clear b1; have c69 := (seen_of H1.out HM.out).least; have c0 := (seen_of H1.out HM.out).act)
        | (refine wpList_st3 rfl _ _ rfl w.heap.size 0 1 rfl rfl m { m with act := 1 } H1.out (by omega) (mt_set0 m 1) HM.out ?_; intro w2 hs2 on2; have H2 := Lib.hid hs2; have C2 := Lib.hid (C1.out.trans (on2.to_below C1.out.size (fun b e => by omega))); clear hs2 on2; clear c69 c0; have c0 := (seen_of H2.out OK1.out).act)
        | (refine wpList_st3 rfl _ _ rfl w.heap.size 1 v rfl rfl { m with act := 1 } { m with act := 1, h0 := { m.h0 with ver := v } } H2.out (by omega) (mt_set1 v OK1.out) OK1.out ?_; intro w3 hs3 on3; have H3 := Lib.hid hs3; have C3 := Lib.hid (C2.out.trans (on3.to_below C2.out.size (fun b e => by omega))); clear hs3 on3; clear c0; have L3 := Lib.hid (ld27 H3.out OK2.out); have HF := Lib.hid (confirm_any _ w3 OK2.out); rw [HCN.out] at HF)
        | (refine wpList_ld 27 _ rfl _ _ L3.out rfl rfl ?_)
        | (go_at_call 8; (with_reducible refine HF.out.mono ?_); rintro e w4 ⟨rfl, b4⟩; clear HF L3; have H4 := Lib.hid (H3.out.kept b4); have C4 := Lib.hid (C3.out.trans (b4.mono C3.out.size)); clear b4; have c69 : w4.cell? ⟨w.heap.size, 69, none⟩ = some (.int .i64 m.least) := (seen_of H4.out OK2.out).least)
        | (refine wpList_st3 rfl _ _ rfl w.heap.size 69 m.least rfl rfl { m with act := 1, h0 := { m.h0 with ver := v } } { m with act := 1, h0 := { m.h0 with ver := v }, least := m.least } H4.out (by omega) (mt_set69 m.least OK2.out) OK2.out ?_; intro w5 hs5 on5; have H5 := Lib.hid hs5; have C5 := Lib.hid (C4.out.trans (on5.to_below C4.out.size (fun b e => by omega))); clear hs5 on5; clear c69; have L5 := Lib.hid (ld27 H5.out OK3.out); have HA := Lib.hid (may_any _ (m.least) w5 OK3.out); rw [HM1.out] at HA)
        | (refine wpList_ld 27 _ rfl _ _ L5.out rfl rfl ?_)
        | (go_at_call 6; (with_reducible refine HA.out.mono ?_); rintro e w6 ⟨rfl, b6⟩; clear HA L5; have H6 := Lib.hid (H5.out.kept b6); have C6 := Lib.hid (C5.out.trans (b6.mono C5.out.size)); clear b6; have L6 := Lib.hid (ld27 H6.out OK3.out); have HB := Lib.hid (may_any _ (m.least - 1) w6 OK3.out); rw [HM2.out] at HB)
        | (refine wpList_ld 27 _ rfl _ _ L6.out rfl rfl ?_)
        | (go_at_call 6; (with_reducible refine HB.out.mono ?_); rintro e w7 ⟨rfl, b7⟩; clear HB; have C7 := Lib.hid (C6.out.trans (b7.mono C6.out.size)); clear b7))
      go_ret
      exact ⟨rfl, C7.out⟩
end Go.Proofs.Ytjljciimppmlnaa.versionRises
