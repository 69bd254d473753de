/-
  The document's example holds, and what is kept at first is read again: the call that every law makes first answers true; conditions: none.
-/
import Derived.Test.YthkgbcchnneloaaGm
import Derived.Test.YthkgbcchnneloaaBy
namespace Go.Proofs.Ythkgbcchnneloaa
open Go.RowKit
set_option linter.unusedVariables false
set_option linter.unusedSimpArgs false

/-- Read of what may be kept, with bytes 0 behind. -/
def ReadsIs (m : Mt) (x : Int) (w : World) (e : Ending) (w' : World) : Prop := e = .returned (.tuple #[.agg m.cells, .int .i64 x]) ∧ Below w.heap.size w w'
theorem read_back {m : Mt} (A : Option Addr) (n c : Nat) (T : List Int) (w : World) (hm : m.Ok) (h : rightB m = true) (hT : T.all (fun x => x == 0) = true) (hr : Row w A n (metaL m ++ T)) (hc : n ≤ c) (hn : n ≤ 1000000) : Calls Try.prog 9 #[.slice A n c] w (ReadsIs m 0 w) := by
  obtain ⟨g, t⟩ := good_back hm h hT
  refine (read_any A n c _ w hr hc hn).mono ?_
  rintro e w' ⟨rfl, hb⟩
  exact ⟨by rw [readM_yes g, readE_yes g, t], hb⟩
theorem read_not {zs : List Int} (A : Option Addr) (n c : Nat) (w : World) (hg : ¬ Good zs) (hr : Row w A n zs) (hc : n ≤ c) (hn : n ≤ 1000000) : Calls Try.prog 9 #[.slice A n c] w (ReadsIs zeroT 6 w) := by
  refine (read_any A n c _ w hr hc hn).mono ?_
  rintro e w' ⟨rfl, hb⟩
  exact ⟨by rw [readM_no hg, readE_no hg], hb⟩
theorem bytes_yes {m : Mt} (w : World) (hm : m.Ok) (h : rightB m = true) : Calls Try.prog 8 #[.agg m.cells] w (Gives 128 (metaL m) w) := by
  have := mbytes_any m w hm
  have e : bytesM m = metaL m := by unfold bytesM; rw [if_pos h]
  rw [e, meta_len] at this
  exact this
theorem wpList_eqT {w : World} {ops : Array Oper} {rest : List Oper} {o : Oper} {a : Act} {Q : Exit → Act → World → Prop} (x y : Operand) (ho : o.op = .binOp .eql 27 x y 27) (m : Mt) (hx : a.eval x = .agg m.cells) (hy : a.eval y = .agg m.cells) (hm : m.Ok) (hw : Region.wanted o (yielded ops a.tmps) = true)
    (h : wpList Try.prog ops Q rest (a.put o.dst (.bool true)) w) : wpList Try.prog ops Q (o :: rest) a w :=
  wpList_step fun K hK => by
    rw [if_pos hw]
    have h1 := run_eqGuard_agg (P := Try.prog) w .eql 27 x y m.cells m.cells (by kernel_rfl)
    have h2 := run_eql_struct (P := Try.prog) w 27 m.cells m.cells
    rw [same27 hm w] at h2
    unfold Oper.wp execOp
    simp only [ho, hx, hy, Sem.run_bind, h1, h2, Result.andThen_ok]
    exact hK _ _ h
def mA : Mt := ⟨0, ⟨1, 5, List.replicate 32 0⟩, zeroI, 0, 0, zeroI, 0, 0⟩
def iA : Im := ⟨1, 5, List.replicate 32 0⟩
theorem iA_ok : iA.Ok := ⟨List.length_replicate, byt_rep _, by unfold I64 iA; simp, by unfold I64 iA; simp⟩
theorem mA_ok : mA.Ok := ⟨iA_ok, zeroI_ok, zeroI_ok, i64_zero, i64_zero, i64_zero, i64_zero, i64_zero⟩
theorem mA_right : rightB mA = true := by decide
theorem mA_put : (zeroT.cells.toList.take 1 ++ iA.list ++ zeroT.cells.toList.drop (1 + iA.list.length)).toArray = mA.cells := mt_put0 iA zeroT_ok iA_ok
theorem nil_not : ¬ Good [] := not_short (by simp)
set_option maxRecDepth 100000 in
set_option maxHeartbeats 2000000 in
theorem live_any (w : World) : Calls Try.prog 6 #[] w fun e w' => e = .returned (.bool true) ∧ Below w.heap.size w w' := by
  have hz27 := zero27_run
  have HR := Lib.hid (read_not none 0 0 w nil_not (row_nil w) (Nat.le_refl _) (by omega))
  go_enter Try.func6, Try.ntmps6
  go_wp2_with (first
    | (go_at_call 9; (with_reducible refine HR.out.mono ?_); rintro e w1 ⟨rfl, b1⟩; clear HR; have C1 := Lib.hid b1; clear b1; have hn1 := has_new w1 27 zeroT.cells)
    | (refine wpList_row rfl 27 _ _ rfl w1.heap.size zeroT.cells rfl rfl 27 _ hn1 (size27 zeroT_ok) rfl (mt_all _) ?_; intro w2 hs2 on2; have C2 := Lib.hid ((C1.out.alloc C1.out.size (.cells zeroT.cells 27)).trans (on2.to_below (C1.out.alloc C1.out.size (.cells zeroT.cells 27)).size (fun b e => by have := C1.out.size; omega))); clear hs2 on2 hn1; have hn2 := has_new w2 27 zeroT.cells)
    | (refine wpList_build_to rfl 27 _ rfl _ built27 ?_)
    | (refine wpList_row rfl 27 _ _ rfl w2.heap.size zeroT.cells rfl rfl 27 _ hn2 (size27 zeroT_ok) rfl (mt_all _) ?_; intro w3 hs3 on3; have C3 := Lib.hid ((C2.out.alloc C2.out.size (.cells zeroT.cells 27)).trans (on3.to_below (C2.out.alloc C2.out.size (.cells zeroT.cells 27)).size (fun b e => by have := C2.out.size; omega))); have H3 := Lib.hid hs3; clear hs3 on3 hn2)
    | (refine wpList_build24 rfl (.const (.int .i64 1)) (.const (.int .i64 5)) rfl 1 5 rfl rfl ?_)
    | (refine wpList_st24 rfl _ _ rfl w2.heap.size 1 iA rfl rfl zeroT mA zeroT_ok iA_ok H3.out mA_put (by omega) ?_; intro w4 hs4 on4; have C4 := Lib.hid (C3.out.trans (on4.to_below C3.out.size (fun b e => by have := C2.out.size; omega))); have H4 := Lib.hid hs4; clear hs4 on4; have L4 := Lib.hid (ld27 H4.out mA_ok); have HB := Lib.hid (bytes_yes w4 mA_ok mA_right))
    | (refine wpList_ld 27 _ rfl _ _ L4.out rfl rfl ?_)
    | (go_at_call 8; (with_reducible refine HB.out.mono ?_); rintro e w5 ⟨v5, rfl, o5, b5⟩; clear HB L4; obtain ⟨A5, c5, rfl, hc5, r5, _⟩ := o5.form; have C5 := Lib.hid (C4.out.trans (b5.mono C4.out.size)); have H5 := Lib.hid (H4.out.kept b5); have HR2 := Lib.hid (read_back A5 128 c5 [] w5 mA_ok mA_right rfl (by rw [List.append_nil]; exact r5) hc5 (by omega)); clear o5 b5 r5)
    | (go_at_call 9; (with_reducible refine HR2.out.mono ?_); rintro e w6 ⟨rfl, b6⟩; clear HR2; have C6 := Lib.hid (C5.out.trans (b6.mono C5.out.size)); have H6 := Lib.hid (H5.out.kept b6); clear b6; have hn6 := has_new w6 27 zeroT.cells)
    | (refine wpList_row rfl 27 _ _ rfl w6.heap.size mA.cells rfl rfl 27 _ hn6 (size27 mA_ok) (old27 zeroT_ok mA_ok) (mt_all _) ?_; intro w7 hs7 on7; have C7 := Lib.hid ((C6.out.alloc C6.out.size (.cells zeroT.cells 27)).trans (on7.to_below (C6.out.alloc C6.out.size (.cells zeroT.cells 27)).size (fun b e => by have := C6.out.size; omega))); have L7 := Lib.hid (ld27 hs7 mA_ok); have M7 := Lib.hid (ld27 (Has.only (H6.out.more (.cells zeroT.cells 27)) on7 (by have := H6.out.size; omega)) mA_ok); clear hs7 on7 hn6)
    | (go_at_call 13; (with_reducible refine (lnum_any _ _).mono ?_); rintro e wn ⟨rfl, rfl⟩)
    | (refine wpList_ld 27 _ rfl _ _ L7.out rfl rfl ?_)
    | (refine wpList_ld 27 _ rfl _ _ M7.out rfl rfl ?_)
    | (refine wpList_eqT _ _ rfl mA rfl rfl mA_ok rfl ?_))
  go_ret
  exact ⟨rfl, C7.out⟩
end Go.Proofs.Ythkgbcchnneloaa
