/-
  Two images compare by all that they are, what is kept is the same as itself; conditions: their digests are of 32 bytes.
-/
import Derived.Test.YthkgbcchnneloaaMk
namespace Go.Proofs.Ythkgbcchnneloaa
open Go.RowKit
set_option linter.unusedVariables false
set_option linter.unusedSimpArgs false

theorem is_agg (t : TypeId) (d : TypeDesc) (h : Try.prog.underlying t = some d) (hd : d.isRow = true) (w : World) : (isAgg t).run Try.prog w = .ok true w := by
  unfold isAgg
  rw [Sem.run_bind, run_underlying h w]
  cases d <;> simp_all
theorem not_agg3 (w : World) : (isAgg 3).run Try.prog w = .ok false w := by unfold isAgg; rw [Sem.run_bind, run_underlying Try.underlying3 w]; rfl
theorem size_is (t : TypeId) (n : Nat) (h : (Try.prog.info? t).map (·.size) = some n) (w : World) : (sizeOf t).run Try.prog w = .ok n w := by
  obtain ⟨i, hi, hsz⟩ := Option.map_eq_some_iff.1 h
  simp [sizeOf, typeInfo, hi, hsz]
theorem part_agg (t : TypeId) (d : TypeDesc) (n k : Nat) (cs ds : Array Value) (h : Try.prog.underlying t = some d) (hd : d.isRow = true) (hs : (Try.prog.info? t).map (·.size) = some n) (e : cs.extract k (k + n) = ds) (w : World) : (part t cs k).run Try.prog w = .ok (.agg ds) w := by
  unfold part
  rw [Sem.run_bind, is_agg t d h hd]
  simp only [Result.andThen_ok, if_true, Sem.run_bind, size_is t n hs, Sem.run_pure, e]
theorem part_int (k : Nat) (cs : Array Value) (x : Int) (h : cs[k]? = some (.int .i64 x)) (w : World) : (part 3 cs k).run Try.prog w = .ok (.int .i64 x) w := by
  unfold part
  rw [Sem.run_bind, not_agg3]
  simp [h]
theorem im_dig {i : Im} (h : i.Ok) : i.cells.extract 2 (2 + 32) = (nums i.dig).toArray := by
  have h2 : (nums i.dig).length = 32 := by rw [nums_len, h.1]
  simp [Im.cells, Im.list]
  exact List.take_of_length_le (by omega)
theorem size22 : (Try.prog.info? 22).map (·.size) = some 32 := by kernel_rfl
theorem size24n : (Try.prog.info? 24).map (·.size) = some 34 := by kernel_rfl
theorem size25 : (Try.prog.info? 25).map (·.size) = some 68 := by kernel_rfl
theorem under24 : Try.prog.underlying 24 = some (.struct (Try.prog.fieldsOf 24)) := by kernel_rfl
theorem under27 : Try.prog.underlying 27 = some (.struct (Try.prog.fieldsOf 27)) := by kernel_rfl
theorem stood24 : Try.prog.stoodInHeld 24 = false := by kernel_rfl
theorem stood27 : Try.prog.stoodInHeld 27 = false := by kernel_rfl
theorem eq24d {i k : Im} (hi : i.Ok) (hk : k.Ok) (w : World) (d : Nat) : (Op.equalIn (d + 3) 24 (.agg i.cells) (.agg k.cells)).run Try.prog w = .ok (decide (i = k)) w := by
  have a0 := fun w => part_int 0 i.cells i.ver rfl w
  have a1 := fun w => part_int 1 i.cells i.size rfl w
  have a2 := fun w => part_agg 22 _ 32 2 i.cells _ Try.underlying22 rfl size22 (im_dig hi) w
  have b0 := fun w => part_int 0 k.cells k.ver rfl w
  have b1 := fun w => part_int 1 k.cells k.size rfl w
  have b2 := fun w => part_agg 22 _ 32 2 k.cells _ Try.underlying22 rfl size22 (im_dig hk) w
  have q := fun w => eq22 hi.1 hk.1 w d
  rw [run_equalIn_agg w (d + 2) 24 _ _ under24 stood24]
  simp only [Program.fieldsOf, Try.underlying24, Op.eqFields, ne_eq, reduceCtorEq, not_false_eq_true, if_true, Sem.run_bind, a0, a1, a2, b0, b1, b2, Result.andThen_ok, run_equalIn_int w (d + 1) 3 .i64 .i64 _ _ Try.underlying3, q, Sem.run_pure, Sem.run_ite]
  have hik : i = k ↔ i.ver = k.ver ∧ i.size = k.size ∧ i.dig = k.dig := by
    cases i; cases k; simp
  by_cases e0 : i.ver = k.ver
  · by_cases e1 : i.size = k.size
    · by_cases e2 : i.dig = k.dig
      · have e3 : i = k := hik.2 ⟨e0, e1, e2⟩
        subst e3
        simp
      · have e3 : ¬ i = k := fun h => e2 (hik.1 h).2.2
        simp [e0, e1, e2, e3]
    · have e3 : ¬ i = k := fun h => e1 (hik.1 h).2.1
      simp [e0, e1, e3]
  · have e3 : ¬ i = k := fun h => e0 (hik.1 h).1
    simp [e0, e3]
theorem eq24 {i k : Im} (hi : i.Ok) (hk : k.Ok) (w : World) : (Op.equalIn 10000 24 (.agg i.cells) (.agg k.cells)).run Try.prog w = .ok (decide (i = k)) w := eq24d hi hk w 9997
theorem mt_have {m : Mt} (h : m.Ok) : m.cells.extract 1 (1 + 68) = (m.h0.list ++ m.h1.list).toArray := by
  have l0 := iml_len h.h0
  have l1 := iml_len h.h1
  simp only [Mt.cells, Mt.list, List.extract_toArray, List.extract_eq_take_drop, List.drop_succ_cons, List.drop_zero]
  rw [← List.append_assoc, List.take_append_of_le_length (by rw [List.length_append]; omega), List.take_of_length_le (by rw [List.length_append]; omega)]
theorem mt_coming {m : Mt} (h : m.Ok) : m.cells.extract 71 (71 + 34) = m.com.cells := by
  apply Array.ext'
  refine List.ext_getElem? fun j => ?_
  have l2 := iml_len h.com
  have hs := mt_size h
  by_cases hj : j < 34
  · have := mt_com h j hj
    simp only [Array.getElem?_toList, Array.getElem?_extract]
    rw [if_pos (by omega), this]
    simp [Im.cells]
  · simp only [Array.getElem?_toList, Array.getElem?_extract]
    rw [if_neg (by omega)]
    simp [Im.cells]
    omega
theorem have_0 {m : Mt} (h : m.Ok) : (m.h0.list ++ m.h1.list).toArray.extract 0 (0 + 34) = m.h0.cells := by
  have l0 := iml_len h.h0
  simp only [List.extract_toArray, List.extract_eq_take_drop, List.drop_zero, Im.cells]
  rw [List.take_append_of_le_length (by omega), List.take_of_length_le (by omega)]
theorem have_1 {m : Mt} (h : m.Ok) : (m.h0.list ++ m.h1.list).toArray.extract 34 (34 + 34) = m.h1.cells := by
  have l0 := iml_len h.h0
  have l1 := iml_len h.h1
  simp only [List.extract_toArray, List.extract_eq_take_drop, Im.cells]
  rw [List.drop_left' l0, List.take_of_length_le (by omega)]
theorem same25 {m : Mt} (h : m.Ok) (w : World) (d : Nat) : (Op.equalIn (d + 4) 25 (.agg (m.h0.list ++ m.h1.list).toArray) (.agg (m.h0.list ++ m.h1.list).toArray)).run Try.prog w = .ok true w := by
  obtain ⟨i, hi, _⟩ := Option.map_eq_some_iff.1 size24n
  have p0 : (part 24 (m.h0.list ++ m.h1.list).toArray (0 * 34)).run Try.prog w = .ok (.agg m.h0.cells) w := part_agg 24 _ 34 0 _ _ Try.underlying24 rfl size24n (have_0 h) w
  have p1 : (part 24 (m.h0.list ++ m.h1.list).toArray (1 * 34)).run Try.prog w = .ok (.agg m.h1.cells) w := part_agg 24 _ 34 34 _ _ Try.underlying24 rfl size24n (have_1 h) w
  have q0 := eq24d h.h0 h.h0 w d
  have q1 := eq24d h.h1 h.h1 w d
  rw [decide_eq_true rfl] at q0 q1
  rw [run_equalIn_array w (d + 3) _ _ Try.underlying25 hi, show Try.prog.cellsOf 24 = 34 by kernel_rfl, show List.range 2 = [0, 1] from rfl]
  simp only [Op.eqItems, Sem.run_bind, p0, p1, q0, q1, Result.andThen_ok, Bool.not_true, Bool.false_eq_true, if_false, Sem.run_pure]
/-- What is kept is the same as itself. -/
theorem same27 {m : Mt} (h : m.Ok) (w : World) : (Op.equalIn 10000 27 (.agg m.cells) (.agg m.cells)).run Try.prog w = .ok true w := by
  have p0 := fun w => part_int 0 m.cells m.act rfl w
  have p1 := fun w => part_agg 25 _ 68 1 m.cells _ Try.underlying25 rfl size25 (mt_have h) w
  have p2 := fun w => part_int 69 m.cells m.least (mt_least h) w
  have p3 := fun w => part_int 70 m.cells m.phase (mt_phase h) w
  have p4 := fun w => part_agg 24 _ 34 71 m.cells _ Try.underlying24 rfl size24n (mt_coming h) w
  have p5 := fun w => part_int 105 m.cells m.gott (mt_gott h) w
  have p6 := fun w => part_int 106 m.cells m.trials (mt_trials h) w
  have q1 := fun w => same25 h w 9995
  have q4 := fun w => eq24d h.com h.com w 9996
  simp only [decide_true] at q4
  rw [show (10000 : Nat) = 9999 + 1 from rfl, run_equalIn_agg w 9999 27 _ _ under27 stood27]
  simp only [Program.fieldsOf, Try.underlying27, Op.eqFields, ne_eq, reduceCtorEq, not_false_eq_true, if_true, Sem.run_bind, p0, p1, p2, p3, p4, p5, p6, Result.andThen_ok, run_equalIn_int w 9998 3 .i64 .i64 _ _ Try.underlying3, q1, q4, beq_self_eq_true, Bool.not_true, Bool.false_eq_true, if_false, Sem.run_pure, Sem.run_ite]
  rfl

/-! What is written into it -/
theorem mt_set0 (m : Mt) (v : Int) : m.cells.setIfInBounds 0 (.int .i64 v) = Mt.cells { m with act := v } := by simp [Mt.cells, Mt.list]
theorem set_tail (m : Mt) (v : Value) (j : Nat) (h : m.Ok) : m.cells.setIfInBounds (69 + j) v = (Value.int .i64 m.act :: (m.h0.list ++ (m.h1.list ++ ((Value.int .i64 m.least :: Value.int .i64 m.phase :: (m.com.list ++ [Value.int .i64 m.gott, Value.int .i64 m.trials])).set j v)))).toArray := by
  have l0 := iml_len h.h0
  have l1 := iml_len h.h1
  simp only [Mt.cells, Mt.list, List.setIfInBounds_toArray]
  rw [show 69 + j = (68 + j) + 1 by omega, List.set_cons_succ, List.set_append_right _ _ (by omega), List.set_append_right _ _ (by omega), show 68 + j - m.h0.list.length - m.h1.list.length = j by omega]
theorem mt_set69 {m : Mt} (v : Int) (h : m.Ok) : m.cells.setIfInBounds 69 (.int .i64 v) = Mt.cells { m with least := v } := set_tail m _ 0 h
theorem mt_set70 {m : Mt} (v : Int) (h : m.Ok) : m.cells.setIfInBounds 70 (.int .i64 v) = Mt.cells { m with phase := v } := set_tail m _ 1 h
theorem mt_set105 {m : Mt} (v : Int) (h : m.Ok) : m.cells.setIfInBounds 105 (.int .i64 v) = Mt.cells { m with gott := v } := by
  have l2 := iml_len h.com
  rw [show 105 = 69 + 36 by omega, set_tail m _ 36 h, List.set_cons_succ, List.set_cons_succ, List.set_append_right _ _ (by omega), l2]
  rfl
theorem mt_set106 {m : Mt} (v : Int) (h : m.Ok) : m.cells.setIfInBounds 106 (.int .i64 v) = Mt.cells { m with trials := v } := by
  have l2 := iml_len h.com
  rw [show 106 = 69 + 37 by omega, set_tail m _ 37 h, List.set_cons_succ, List.set_cons_succ, List.set_append_right _ _ (by omega), l2]
  rfl
theorem mt_put0 {m : Mt} (i : Im) (h : m.Ok) (hi : i.Ok) : (m.cells.toList.take 1 ++ i.list ++ m.cells.toList.drop (1 + i.list.length)).toArray = Mt.cells { m with h0 := i } := by
  have l0 := iml_len h.h0
  have l := iml_len hi
  simp only [Mt.cells, Mt.list, List.take_succ_cons, List.take_zero, l]
  rw [show 1 + 34 = 34 + 1 from rfl, List.drop_succ_cons, List.drop_left' l0]
  simp
theorem mt_put1 {m : Mt} (i : Im) (h : m.Ok) (hi : i.Ok) : (m.cells.toList.take 35 ++ i.list ++ m.cells.toList.drop (35 + i.list.length)).toArray = Mt.cells { m with h1 := i } := by
  have l0 := iml_len h.h0
  have l1 := iml_len h.h1
  have l := iml_len hi
  simp only [Mt.cells, Mt.list, l]
  rw [show 35 + 34 = (34 + 34) + 1 from rfl, List.drop_succ_cons, show 35 = 34 + 1 from rfl, List.take_succ_cons, List.take_left' l0, ← List.drop_drop, List.drop_left' l0, List.drop_left' l1]
  simp
theorem mt_put2 {m : Mt} (i : Im) (h : m.Ok) (hi : i.Ok) : (m.cells.toList.take 71 ++ i.list ++ m.cells.toList.drop (71 + i.list.length)).toArray = Mt.cells { m with com := i } := by
  have l0 := iml_len h.h0
  have l1 := iml_len h.h1
  have l2 := iml_len h.com
  have l := iml_len hi
  obtain ⟨A, hA⟩ : ∃ A, A = Value.int .i64 m.act :: (m.h0.list ++ (m.h1.list ++ [Value.int .i64 m.least, Value.int .i64 m.phase])) := ⟨_, rfl⟩
  have lA : A.length = 71 := by simp [hA, l0, l1]
  have e : ∀ c : Im, (Mt.cells { m with com := c }).toList = A ++ (c.list ++ [Value.int .i64 m.gott, Value.int .i64 m.trials]) := by
    intro c
    simp [Mt.cells, Mt.list, hA]
  have e1 : m.cells.toList = A ++ (m.com.list ++ [Value.int .i64 m.gott, Value.int .i64 m.trials]) := e m.com
  apply Array.ext'
  rw [e i, e1, List.take_left' lA, ← List.drop_drop, List.drop_left' lA, l, List.drop_left' l2]
  simp
end Go.Proofs.Ythkgbcchnneloaa
