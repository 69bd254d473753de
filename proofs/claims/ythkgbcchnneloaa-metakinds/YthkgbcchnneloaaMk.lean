/-
  What a tenant keeps, in memory: its cells, an image's, how they are read, written and compared; conditions: as each states.
-/
import Derived.Test.YthkgbcchnneloaaMp
import Derived.Test.YthkgbcchnneloaaRx
import Derived.Test.YthkgbcchnneloaaLive
import Derived.Laws.StructEq
import Derived.Laws.CopyRow
import Derived.Deep.MidRow
import Derived.Deep.WholeRow
namespace Go.Proofs.Ythkgbcchnneloaa
open Go.RowKit
set_option linter.unusedVariables false
set_option linter.unusedSimpArgs false

/-- An image's cells, and what is kept. -/
def Im.list (i : Im) : List Value := Value.int .i64 i.ver :: Value.int .i64 i.size :: nums i.dig
def Im.cells (i : Im) : Array Value := i.list.toArray
def Mt.list (m : Mt) : List Value := Value.int .i64 m.act :: (m.h0.list ++ (m.h1.list ++ (Value.int .i64 m.least :: Value.int .i64 m.phase :: (m.com.list ++ [Value.int .i64 m.gott, Value.int .i64 m.trials]))))
def Mt.cells (m : Mt) : Array Value := m.list.toArray
theorem iml_len {i : Im} (h : i.Ok) : i.list.length = 34 := by simp [Im.list, nums, h.1]
theorem mtl_len {m : Mt} (h : m.Ok) : m.list.length = 107 := by simp [Mt.list, iml_len h.h0, iml_len h.h1, iml_len h.com]
theorem im_size {i : Im} (h : i.Ok) : i.cells.size = 34 := by simp [Im.cells, iml_len h]
theorem mt_size {m : Mt} (h : m.Ok) : m.cells.size = 107 := by simp [Mt.cells, mtl_len h]
theorem iml_one (i : Im) : ∀ v ∈ i.list, v.oneCell' = true := by
  intro v hv
  simp only [Im.list, List.mem_cons] at hv
  rcases hv with rfl | rfl | hv
  · rfl
  · rfl
  · exact nums_one _ v hv
theorem mtl_one (m : Mt) : ∀ v ∈ m.list, v.oneCell' = true := by
  intro v hv
  simp only [Mt.list, List.mem_cons, List.mem_append, List.not_mem_nil, or_false] at hv
  rcases hv with rfl | hv | hv | rfl | rfl | hv | rfl | rfl
  · rfl
  · exact iml_one _ v hv
  · exact iml_one _ v hv
  · rfl
  · rfl
  · exact iml_one _ v hv
  · rfl
  · rfl
theorem im_all (i : Im) : i.cells.all (·.oneCell') = true := all_oneCell_toArray (iml_one i)
theorem mt_all (m : Mt) : m.cells.all (·.oneCell') = true := all_oneCell_toArray (mtl_one m)
theorem size24 {i : Im} (h : i.Ok) : (Try.prog.info? 24).map (·.size) = some i.cells.size := by rw [im_size h]; kernel_rfl
theorem size24l {i : Im} (h : i.Ok) : (Try.prog.info? 24).map (·.size) = some i.list.length := by rw [iml_len h]; kernel_rfl
theorem size27 {m : Mt} (h : m.Ok) : (Try.prog.info? 27).map (·.size) = some m.cells.size := by rw [mt_size h]; kernel_rfl
theorem old24 {i k : Im} (h : i.Ok) (h' : k.Ok) : i.cells.size = k.cells.size := by rw [im_size h, im_size h']
theorem old27 {m k : Mt} (h : m.Ok) (h' : k.Ok) : m.cells.size = k.cells.size := by rw [mt_size h, mt_size h']
theorem zero24_run : ∀ w : World, (zeroValue 24).run Try.prog w = .ok (.agg zeroI.cells) w := (zero_of_info (P := Try.prog) (t := 24) (n := 34) (by kernel_rfl)).1
theorem zero27_run : ∀ w : World, (zeroValue 27).run Try.prog w = .ok (.agg zeroT.cells) w := (zero_of_info (P := Try.prog) (t := 27) (n := 107) (by kernel_rfl)).1
theorem built24 : Try.prog.built 24 [] = some zeroI.cells := by kernel_rfl
theorem built27 : Try.prog.built 27 [] = some zeroT.cells := by kernel_rfl
theorem built24b (v n : Int) : Try.prog.built 24 [(0, .int .i64 v), (1, .int .i64 n)] = some (Im.cells ⟨v, n, List.replicate 32 0⟩) := by kernel_rfl
theorem built27a (v : Int) : Try.prog.built 27 [(0, .int .i64 v)] = some (Mt.cells ⟨v, zeroI, zeroI, 0, 0, zeroI, 0, 0⟩) := by kernel_rfl

/-! Where each part lies -/
theorem mt_0 (m : Mt) : m.cells[0]? = some (.int .i64 m.act) := rfl
theorem mt_h0 {m : Mt} (h : m.Ok) (j : Nat) (hj : j < 34) : m.cells[1 + j]? = m.h0.list[j]? := by
  have l0 := iml_len h.h0
  simp only [Mt.cells, List.getElem?_toArray, Mt.list]
  rw [Nat.add_comm, List.getElem?_cons_succ, List.getElem?_append_left (by omega)]
theorem mt_h1 {m : Mt} (h : m.Ok) (j : Nat) (hj : j < 34) : m.cells[35 + j]? = m.h1.list[j]? := by
  have l0 := iml_len h.h0
  have l1 := iml_len h.h1
  simp only [Mt.cells, List.getElem?_toArray, Mt.list]
  rw [show 35 + j = (34 + j) + 1 by omega, List.getElem?_cons_succ, List.getElem?_append_right (by omega), List.getElem?_append_left (by omega)]
  congr 1; omega
theorem mt_tail {m : Mt} (h : m.Ok) (j : Nat) : m.cells[69 + j]? = (Value.int .i64 m.least :: Value.int .i64 m.phase :: (m.com.list ++ [Value.int .i64 m.gott, Value.int .i64 m.trials]))[j]? := by
  have l0 := iml_len h.h0
  have l1 := iml_len h.h1
  simp only [Mt.cells, List.getElem?_toArray, Mt.list]
  rw [show 69 + j = (68 + j) + 1 by omega, List.getElem?_cons_succ, List.getElem?_append_right (by omega), List.getElem?_append_right (by omega)]
  congr 1; omega
theorem mt_least {m : Mt} (h : m.Ok) : m.cells[69]? = some (.int .i64 m.least) := mt_tail h 0
theorem mt_phase {m : Mt} (h : m.Ok) : m.cells[70]? = some (.int .i64 m.phase) := mt_tail h 1
theorem mt_com {m : Mt} (h : m.Ok) (j : Nat) (hj : j < 34) : m.cells[71 + j]? = m.com.list[j]? := by
  have l2 := iml_len h.com
  rw [show 71 + j = 69 + (j + 2) by omega, mt_tail h, List.getElem?_cons_succ, List.getElem?_cons_succ, List.getElem?_append_left (by omega)]
theorem mt_gott {m : Mt} (h : m.Ok) : m.cells[105]? = some (.int .i64 m.gott) := by
  have l2 := iml_len h.com
  rw [show 105 = 69 + 36 by omega, mt_tail h, List.getElem?_cons_succ, List.getElem?_cons_succ, List.getElem?_append_right (by omega), l2]
  rfl
theorem mt_trials {m : Mt} (h : m.Ok) : m.cells[106]? = some (.int .i64 m.trials) := by
  have l2 := iml_len h.com
  rw [show 106 = 69 + 37 by omega, mt_tail h, List.getElem?_cons_succ, List.getElem?_cons_succ, List.getElem?_append_right (by omega), l2]
  rfl
theorem lt_list {i : Im} (h : i.Ok) {j : Nat} {v : Value} (hv : i.list[j]? = some v) : j < 34 := by
  have := (List.getElem?_eq_some_iff.1 hv).1
  rwa [iml_len h] at this
theorem rng_h0 {w : World} {g : Nat} {m : Mt} (hg : Has w g 27 m.cells) (h : m.Ok) : w.rangeAt g 1 m.h0.list := fun j v hv => by rw [hg.at, mt_h0 h j (lt_list h.h0 hv)]; exact hv
theorem rng_h1 {w : World} {g : Nat} {m : Mt} (hg : Has w g 27 m.cells) (h : m.Ok) : w.rangeAt g 35 m.h1.list := fun j v hv => by rw [hg.at, mt_h1 h j (lt_list h.h1 hv)]; exact hv
theorem rng_com {w : World} {g : Nat} {m : Mt} (hg : Has w g 27 m.cells) (h : m.Ok) : w.rangeAt g 71 m.com.list := fun j v hv => by rw [hg.at, mt_com h j (lt_list h.com hv)]; exact hv
theorem ld24 {w : World} {g o : Nat} {i : Im} (hr : w.rangeAt g o i.list) (h : i.Ok) : (Instr.loadAt 24 (.pointer (some ⟨g, o, none⟩))).run Try.prog w = .ok (.agg i.cells) w :=
  run_loadAt_mid w g o 24 i.list _ hr Try.underlying24 rfl (size24l h)
theorem ld24w {w : World} {g : Nat} {i : Im} (hg : Has w g 24 i.cells) (h : i.Ok) : (Instr.loadAt 24 (.pointer (some ⟨g, 0, none⟩))).run Try.prog w = .ok (.agg i.cells) w := by
  simp only [Instr.loadAt, Instr.sureAddr, Sem.run_bind, Sem.run_pure, Result.andThen_ok, run_loadVar_row w g 24 24 i.cells (0, 0) _ hg Try.underlying24 rfl (size24 h)]
theorem ld27 {w : World} {g : Nat} {m : Mt} (hg : Has w g 27 m.cells) (h : m.Ok) : (Instr.loadAt 27 (.pointer (some ⟨g, 0, none⟩))).run Try.prog w = .ok (.agg m.cells) w := by
  simp only [Instr.loadAt, Instr.sureAddr, Sem.run_bind, Sem.run_pure, Result.andThen_ok, run_loadVar_row w g 27 27 m.cells (0, 0) _ hg Try.underlying27 rfl (size27 h)]
/-- All that is read of what is kept, in a world. -/
structure Seen (w : World) (g : Nat) (m : Mt) : Prop where
  act : w.cell? ⟨g, 0, none⟩ = some (.int .i64 m.act)
  v0 : w.cell? ⟨g, 1, none⟩ = some (.int .i64 m.h0.ver)
  v1 : w.cell? ⟨g, 35, none⟩ = some (.int .i64 m.h1.ver)
  least : w.cell? ⟨g, 69, none⟩ = some (.int .i64 m.least)
  phase : w.cell? ⟨g, 70, none⟩ = some (.int .i64 m.phase)
  v2 : w.cell? ⟨g, 71, none⟩ = some (.int .i64 m.com.ver)
  s2 : w.cell? ⟨g, 72, none⟩ = some (.int .i64 m.com.size)
  gott : w.cell? ⟨g, 105, none⟩ = some (.int .i64 m.gott)
  trials : w.cell? ⟨g, 106, none⟩ = some (.int .i64 m.trials)
  l0 : (Instr.loadAt 24 (.pointer (some ⟨g, 1, none⟩))).run Try.prog w = .ok (.agg m.h0.cells) w
  l1 : (Instr.loadAt 24 (.pointer (some ⟨g, 35, none⟩))).run Try.prog w = .ok (.agg m.h1.cells) w
  l2 : (Instr.loadAt 24 (.pointer (some ⟨g, 71, none⟩))).run Try.prog w = .ok (.agg m.com.cells) w
  all : (Instr.loadAt 27 (.pointer (some ⟨g, 0, none⟩))).run Try.prog w = .ok (.agg m.cells) w
theorem seen_of {w : World} {g : Nat} {m : Mt} (hg : Has w g 27 m.cells) (h : m.Ok) : Seen w g m :=
  ⟨hg.at 0, (hg.at 1).trans (mt_h0 h 0 (by omega)), (hg.at 35).trans (mt_h1 h 0 (by omega)), (hg.at 69).trans (mt_least h), (hg.at 70).trans (mt_phase h), (hg.at 71).trans (mt_com h 0 (by omega)), (hg.at 72).trans (mt_com h 1 (by omega)),
    (hg.at 105).trans (mt_gott h), (hg.at 106).trans (mt_trials h), ld24 (rng_h0 hg h) h.h0, ld24 (rng_h1 hg h) h.h1, ld24 (rng_com hg h) h.com, ld27 hg h⟩

/-! How they compare -/
theorem eqItems_is (xs ys : List Int) (w : World) (d : Nat) : ∀ is : List Nat, (∀ i ∈ is, i < xs.length ∧ i < ys.length) → (Op.eqItems (d + 1) 5 1 (nums xs).toArray (nums ys).toArray is).run Try.prog w = .ok (decide (∀ i ∈ is, xs.getD i 0 = ys.getD i 0)) w
  | [], _ => by simp [Op.eqItems]
  | i :: is, hh => by
    obtain ⟨h1, h2⟩ := hh i (by simp)
    have hp : (part 5 (nums xs).toArray (i * 1)).run Try.prog w = .ok (.int .u8 xs[i]) w := by
      have hc : (nums xs).toArray[i]? = some (.int .u8 xs[i]) := by simp [nums, h1]
      simp [part, go_sem, hc]
    have hq : (part 5 (nums ys).toArray (i * 1)).run Try.prog w = .ok (.int .u8 ys[i]) w := by
      have hc : (nums ys).toArray[i]? = some (.int .u8 ys[i]) := by simp [nums, h2]
      simp [part, go_sem, hc]
    have he : (Op.equalIn (d + 1) 5 (.int .u8 xs[i]) (.int .u8 ys[i])).run Try.prog w = .ok (xs[i] == ys[i]) w := run_equalIn_int w d 5 .u8 .u8 _ _ Try.underlying5
    have ex : xs.getD i 0 = xs[i] := by simp [List.getD_eq_getElem?_getD, h1]
    have ey : ys.getD i 0 = ys[i] := by simp [List.getD_eq_getElem?_getD, h2]
    simp only [Op.eqItems, Sem.run_bind, hp, hq, Result.andThen_ok, he]
    by_cases e : xs[i] = ys[i]
    · simp only [e, beq_self_eq_true, Bool.not_true, Bool.false_eq_true, if_false]
      rw [eqItems_is xs ys w d is (fun j hj => hh j (by simp [hj]))]
      congr 1
      rw [decide_eq_decide]
      simp only [List.mem_cons, forall_eq_or_imp, ex, ey, e, true_and]
    · rw [beq_eq_false_iff_ne.2 e]
      simp only [Bool.not_false, if_true, Sem.run_pure]
      congr 1
      symm
      rw [decide_eq_false_iff_not]
      intro hall
      have := hall i (by simp)
      rw [ex, ey] at this
      exact e this
theorem eq22 {xs ys : List Int} (hx : xs.length = 32) (hy : ys.length = 32) (w : World) (d : Nat) : (Op.equalIn (d + 2) 22 (.agg (nums xs).toArray) (.agg (nums ys).toArray)).run Try.prog w = .ok (decide (xs = ys)) w := by
  obtain ⟨i, hi, _, _, _⟩ := info_parts info5
  rw [run_equalIn_array w (d + 1) (nums xs).toArray (nums ys).toArray Try.underlying22 hi, show Try.prog.cellsOf 5 = 1 by kernel_rfl, eqItems_is xs ys w d _ (fun i hi => by have := List.mem_range.1 hi; omega)]
  congr 1
  rw [decide_eq_decide]
  constructor
  · intro h
    refine List.ext_getElem (by omega) fun j h1 h2 => ?_
    have := h j (List.mem_range.2 (by omega))
    simpa [List.getD_eq_getElem?_getD, h1, h2] using this
  · rintro rfl j _
    rfl
end Go.Proofs.Ythkgbcchnneloaa
