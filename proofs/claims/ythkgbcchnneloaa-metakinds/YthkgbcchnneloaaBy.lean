/-
  Which bytes what is kept is written as, the program's Bytes; conditions: the digests are of 32 bytes, the numbers of 64 bits.
-/
import Derived.Test.YthkgbcchnneloaaPw
import Derived.Test.YthkgbcchnneloaaRg
namespace Go.Proofs.Ythkgbcchnneloaa
open Go.RowKit
set_option linter.unusedVariables false
set_option linter.unusedSimpArgs false

theorem rng_have {w : World} {g : Nat} {m : Mt} (hg : Has w g 27 m.cells) (h : m.Ok) : w.rangeAt g 1 (m.h0.list ++ m.h1.list) := fun j v hv => by
  have l0 := iml_len h.h0
  by_cases hj : j < 34
  · rw [List.getElem?_append_left (by omega)] at hv
    exact rng_h0 hg h j v hv
  · rw [List.getElem?_append_right (by omega), l0] at hv
    have := rng_h1 hg h (j - 34) v hv
    rwa [show 35 + (j - 34) = 1 + j by omega] at this
theorem ld25 {w : World} {g : Nat} {m : Mt} (hg : Has w g 27 m.cells) (h : m.Ok) : (Instr.loadAt 25 (.pointer (some ⟨g, 1, none⟩))).run Try.prog w = .ok (.agg (m.h0.list ++ m.h1.list).toArray) w :=
  run_loadAt_mid w g 1 25 _ _ (rng_have hg h) Try.underlying25 rfl (by rw [List.length_append, iml_len h.h0, iml_len h.h1]; kernel_rfl)
theorem idx0 {m : Mt} (h : m.Ok) (w : World) : (Instr.index 25 (.agg (m.h0.list ++ m.h1.list).toArray) (.int .i64 0)).run Try.prog w = .ok (.agg m.h0.cells) w := by
  have p0 : ∀ w, (part 24 (m.h0.list ++ m.h1.list).toArray 0).run Try.prog w = .ok (.agg m.h0.cells) w := fun w => part_agg 24 _ 34 0 _ _ Try.underlying24 rfl size24n (have_0 h) w
  have z : ∀ w : World, (sizeOf 24).run Try.prog w = .ok 34 w := fun w => size_is 24 34 size24n w
  simp [Instr.index, run_underlying Try.underlying25, asIntOf, Sem.run_bind, z, p0]
theorem idx1 {m : Mt} (h : m.Ok) (w : World) : (Instr.index 25 (.agg (m.h0.list ++ m.h1.list).toArray) (.int .i64 1)).run Try.prog w = .ok (.agg m.h1.cells) w := by
  have p1 : ∀ w, (part 24 (m.h0.list ++ m.h1.list).toArray 34).run Try.prog w = .ok (.agg m.h1.cells) w := fun w => part_agg 24 _ 34 34 _ _ Try.underlying24 rfl size24n (have_1 h) w
  have z : ∀ w : World, (sizeOf 24).run Try.prog w = .ok 34 w := fun w => size_is 24 34 size24n w
  simp [Instr.index, run_underlying Try.underlying25, asIntOf, Sem.run_bind, z, p1]
theorem wpList_idx {w : World} {ops : Array Oper} {rest : List Oper} {o : Oper} {a : Act} {Q : Exit → Act → World → Prop} (hg : o.guard = none) (x y : Operand) (ho : o.op = .index 25 x y) (X Y v : Value) (hr : (Instr.index 25 X Y).run Try.prog w = .ok v w) (hx : a.eval x = X) (hy : a.eval y = Y)
    (h : wpList Try.prog ops Q rest (a.put o.dst v) w) : wpList Try.prog ops Q (o :: rest) a w :=
  wpList_plain hg fun K hK => by
    unfold Oper.wp execOp
    simp only [ho, hx, hy, Sem.run_bind, hr, Result.andThen_ok]
    exact hK _ _ h
/-- What is written when so many images of Have are. -/
def haveL (m : Mt) : Nat → List Int
  | 0 => [] ++ numL m.act 1
  | 1 => [] ++ numL m.act 1 ++ imL m.h0
  | _ => [] ++ numL m.act 1 ++ imL m.h0 ++ imL m.h1
theorem have_len (m : Mt) (k : Nat) : (haveL m k).length ≤ 81 := by
  match k with
  | 0 => simp [haveL, num_len]
  | 1 => simp [haveL, num_len, im_len]
  | k + 2 => simp [haveL, num_len, im_len]
/-- So many images of Have are written. -/
def Writing (w : World) (p : Nat) (m : Mt) (k : Nat) (wr : World) : Prop := Wk w p (haveL m k) wr ∧ Has wr w.heap.size 27 m.cells
theorem nil_gives {w w' : World} (hb : Below w.heap.size w w') : Gives 0 [] w (.returned (.slice none 0 0)) w' := ⟨_, rfl, own_nil _ _, hb⟩
set_option maxRecDepth 100000 in
set_option maxHeartbeats 4000000 in
theorem mbytes_any (m : Mt) (w : World) (hm : m.Ok) : Calls Try.prog 8 #[.agg m.cells] w (Gives (bytesM m).length (bytesM m) w) := by
  have hz24 := zero24_run
  have C0 : Hid (Below w.heap.size w (w.alloc (.cells m.cells 27))) := Lib.hid ((Below.refl _ _).alloc (Nat.le_refl _) _)
  have H0 := Lib.hid (has_new w 27 m.cells)
  have S0 := Lib.hid (seen_of H0.out hm)
  have HX := Lib.hid (right_any m (w.alloc (.cells m.cells 27)) hm)
  cases e1 : rightB m with
  | false =>
    rw [e1] at HX
    have EL : bytesM m = [] := by unfold bytesM; rw [if_neg (by rw [e1]; simp)]
    rw [EL]
    clear e1 EL
    go_enter Try.func8, Try.ntmps8
    go_wp2_with (first
      | (refine wpList_ld 27 _ rfl _ _ S0.out.all rfl rfl ?_)
      | (go_at_call 11; (with_reducible refine HX.out.mono ?_); rintro e w1 ⟨rfl, b1⟩; clear HX; have C1 := Lib.hid (C0.out.trans (b1.mono C0.out.size)); clear b1))
    go_ret
    exact nil_gives C1.out
  | true =>
    rw [e1] at HX
    have EL : bytesM m = metaL m := by unfold bytesM; rw [if_pos e1]
    rw [EL, meta_len]
    clear e1 EL
    go_enter Try.func8, Try.ntmps8
    go_wp2_with (first
      | (refine wpList_ld 27 _ rfl _ _ S0.out.all rfl rfl ?_)
      | (go_at_call 11; (with_reducible refine HX.out.mono ?_); rintro e w1 ⟨rfl, b1⟩; clear HX; have C1 := Lib.hid (C0.out.trans (b1.mono C0.out.size)); have K1 := Lib.hid (wk_new w w1 C1.out); have H1 := Lib.hid ((H0.out.kept b1).more (.cells #[.pointer none, .int .i64 0] 47)); have HL := Lib.hid (show ¬ w.heap.size = w1.heap.size by have := (H0.out.kept b1).size; omega); clear b1; have q1 : (w1.alloc (.cells #[.pointer none, .int .i64 0] 47)).cell? ⟨w.heap.size, 0, none⟩ = some (.int .i64 m.act) := H1.out.at 0; have HN := Lib.hid (wp_num m.act 1 _ hm.act K1.out (by simp)); rw [cut8_1] at HN)
      | (go_at_call 16; (with_reducible refine HN.out.mono ?_); rintro e w2 ⟨rfl, k2, o2⟩; clear HN q1; have H2 := Lib.hid (Has.only H1.out o2 HL.out); have K2 := Lib.hid k2; clear k2 o2)
      | (refine wpList_ld 25 _ rfl _ _ (ld25 H2.out hm) rfl rfl ?_))
    obtain ⟨p, hp⟩ : ∃ p, w1.heap.size = p := ⟨_, rfl⟩
    rw [hp]
    rw [hp] at K2 HL
    clear hp K1 H1 C1 S0 H0 C0
    go_loopw [14] (fun v wr => ∃ k : Nat, k ≤ 2 ∧ v = .int .i64 (k : Int) ∧ Hid (Writing w p m k wr)) (fun v _ => 2 - (intOf v).toNat)
    case atStart => exact ⟨0, by omega, rfl, Lib.hid ⟨K2.out, H2.out⟩⟩
    case round =>
      clear K2 H2
      obtain ⟨k, hk, rfl, HW⟩ := hrel
      rcases (show k = 0 ∨ k = 1 ∨ k = 2 by omega) with rfl | rfl | rfl
      · rw [show ((0 : Nat) : Int) = 0 from rfl]
        have hn := has_new wr 24 zeroI.cells
        have KW := Lib.hid HW.out.1
        have HM := Lib.hid HW.out.2
        have hix := idx0 hm wr
        clear HW
        go_wp2_with (first
          | (refine wpList_idx rfl _ _ rfl _ _ _ hix rfl rfl ?_)
          | (refine wpList_row rfl 24 _ _ rfl wr.heap.size m.h0.cells rfl rfl 24 _ hn (size24 hm.h0) (old24 zeroI_ok hm.h0) (im_all _) ?_; intro w3 hs3 on3; have B3 := Lib.hid (((Below.refl wr.heap.size wr).alloc (Nat.le_refl _) (.cells zeroI.cells 24)).trans (on3.to_below (by simp) (fun b e => by omega))); have L3 := Lib.hid (ld24w hs3 hm.h0); have HWI := Lib.hid (writeImage_any m.h0 w3 hm.h0 (KW.out.kept B3.out) (by have := have_len m 0; omega)); have HM3 := Lib.hid (HM.out.kept B3.out); clear hs3 on3)
          | (refine wpList_ld 24 _ rfl _ _ L3.out rfl rfl ?_)
          | (go_at_call 17; (with_reducible refine HWI.out.mono ?_); rintro e w4 ⟨rfl, k4, o4⟩; clear HWI; have K4 := Lib.hid (show Writing w p m 1 w4 from ⟨k4, Has.only HM3.out o4 HL.out⟩); clear k4 o4))
        go_roundw
        case rel => exact ⟨1, by omega, rfl, K4⟩
        case measure => simp [intOf]
      · rw [show ((1 : Nat) : Int) = 1 from rfl]
        have hn := has_new wr 24 zeroI.cells
        have KW := Lib.hid HW.out.1
        have HM := Lib.hid HW.out.2
        have hix := idx1 hm wr
        clear HW
        go_wp2_with (first
          | (refine wpList_idx rfl _ _ rfl _ _ _ hix rfl rfl ?_)
          | (refine wpList_row rfl 24 _ _ rfl wr.heap.size m.h1.cells rfl rfl 24 _ hn (size24 hm.h1) (old24 zeroI_ok hm.h1) (im_all _) ?_; intro w3 hs3 on3; have B3 := Lib.hid (((Below.refl wr.heap.size wr).alloc (Nat.le_refl _) (.cells zeroI.cells 24)).trans (on3.to_below (by simp) (fun b e => by omega))); have L3 := Lib.hid (ld24w hs3 hm.h1); have HWI := Lib.hid (writeImage_any m.h1 w3 hm.h1 (KW.out.kept B3.out) (by have := have_len m 1; omega)); have HM3 := Lib.hid (HM.out.kept B3.out); clear hs3 on3)
          | (refine wpList_ld 24 _ rfl _ _ L3.out rfl rfl ?_)
          | (go_at_call 17; (with_reducible refine HWI.out.mono ?_); rintro e w4 ⟨rfl, k4, o4⟩; clear HWI; have K4 := Lib.hid (show Writing w p m 2 w4 from ⟨k4, Has.only HM3.out o4 HL.out⟩); clear k4 o4))
        go_roundw
        case rel => exact ⟨2, by omega, rfl, K4⟩
        case measure => simp [intOf]
      · rw [show ((2 : Nat) : Int) = 2 from rfl]
        have KW := Lib.hid HW.out.1
        have HM := Lib.hid HW.out.2
        have q1 := (seen_of HM.out hm).least
        have HN1 := Lib.hid (wp_num m.least 4 _ hm.least KW.out (by have := have_len m 2; omega))
        rw [cut8_4] at HN1
        have HZ := Lib.hid (have_len m 2)
        clear HW
        go_wp2_with (first
          | (go_at_call 16; (with_reducible refine HN1.out.mono ?_); rintro e w1 ⟨rfl, k1, o1⟩; clear HN1 q1; have M1 := Lib.hid (Has.only HM.out o1 HL.out); have q2 := (seen_of M1.out hm).phase; have HN2 := Lib.hid (wp_num m.phase 1 _ hm.phase k1 (by have := HZ.out; simp [num_len]; omega)); rw [cut8_1] at HN2; clear k1 o1)
          | (go_at_call 16; (with_reducible refine HN2.out.mono ?_); rintro e w2 ⟨rfl, k2, o2⟩; clear HN2 q2; have M2 := Lib.hid (Has.only M1.out o2 HL.out); have L2 := Lib.hid (seen_of M2.out hm).l2; have HWI := Lib.hid (writeImage_any m.com _ hm.com k2 (by have := HZ.out; simp [num_len]; omega)); clear k2 o2)
          | (refine wpList_ld 24 _ rfl _ _ L2.out rfl rfl ?_)
          | (go_at_call 17; (with_reducible refine HWI.out.mono ?_); rintro e w3 ⟨rfl, k3, o3⟩; clear HWI; have M3 := Lib.hid (Has.only M2.out o3 HL.out); have q4 := (seen_of M3.out hm).gott; have HN4 := Lib.hid (wp_num m.gott 1 _ hm.gott k3 (by have := HZ.out; simp [num_len, im_len]; omega)); rw [cut8_1] at HN4; clear k3 o3)
          | (go_at_call 16; (with_reducible refine HN4.out.mono ?_); rintro e w4 ⟨rfl, k4, o4⟩; clear HN4 q4; have M4 := Lib.hid (Has.only M3.out o4 HL.out); have q5 := (seen_of M4.out hm).trials; have HN5 := Lib.hid (wp_num m.trials 1 _ hm.trials k4 (by have := HZ.out; simp [num_len, im_len]; omega)); rw [cut8_1] at HN5; clear k4 o4)
          | (go_at_call 16; (with_reducible refine HN5.out.mono ?_); rintro e w5 ⟨rfl, k5, o5⟩; clear HN5 q5; have K5 := Lib.hid (show Wk w p (metaL m) w5 from k5); have HB := Lib.hid (wk_bytes w5 K5.out); rw [meta_len] at HB; clear k5 o5)
          | (go_at_call 18; (with_reducible refine HB.out.mono ?_); rintro e w6 ⟨v6, rfl, o6, b6⟩))
        go_ret
        have b5 := K5.out.2.1
        exact ⟨v6, rfl, o6.lower b5.size, b5.trans (b6.mono b5.size)⟩
end Go.Proofs.Ythkgbcchnneloaa
