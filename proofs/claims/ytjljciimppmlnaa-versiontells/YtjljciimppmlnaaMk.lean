/-
  What a tenant keeps: its cells, how they are read and written; conditions: as each states.
-/
import Derived.Test.YtjljciimppmlnaaRows
import Derived.WalkKit
import Derived.WalkSmall
import Derived.Lib.Hide
import Derived.LoopTactic
import Derived.Laws.BytesArg
import Derived.Laws.Rows
import Derived.Below
import Derived.Deep.Draws
import Derived.OwnWalk
import Derived.OpenShut
import Derived.Deep.RegionLaw
import Derived.Laws.StructEq
import Derived.Laws.CopyRow
import Derived.Deep.MidRow
import Derived.Deep.WholeRow
namespace Go.Proofs.Ytjljciimppmlnaa
open Go.RowKit
set_option linter.unusedVariables false
set_option linter.unusedSimpArgs false

def Byt (zs : List Int) : Prop := ∀ n ∈ zs, 0 ≤ n ∧ n ≤ 255
theorem byt_nil : Byt [] := fun n hn => by simp at hn
theorem byt_rep (n : Nat) : Byt (List.replicate n 0) := fun m hm => by rw [List.eq_of_mem_replicate hm]; omega
/-- Block g is just these cells, none of them frozen. -/
def Has (w : World) (g : Nat) (t : TypeId) (cs : Array Value) : Prop := w.heap[g]? = some (.cells cs t (0, 0))
theorem Has.size {w : World} {g : Nat} {t : TypeId} {cs : Array Value} (h : Has w g t cs) : g < w.heap.size := by
  unfold Has at h
  exact (Array.getElem?_eq_some_iff.1 h).1
theorem Has.at {w : World} {g : Nat} {t : TypeId} {cs : Array Value} (h : Has w g t cs) (i : Nat) : w.cell? ⟨g, i, none⟩ = cs[i]? := cell_of_row w g i cs t (0, 0) h
theorem Has.soft {w : World} {g : Nat} {t : TypeId} {cs : Array Value} (h : Has w g t cs) (i : Nat) : w.frozen? ⟨g, i, none⟩ = false := frozen_of_row w g i cs t h
theorem has_new (w : World) (t : TypeId) (cs : Array Value) : Has (w.alloc (.cells cs t)) w.heap.size t cs := heap_alloc_new w _
theorem Has.more {w : World} {g : Nat} {t : TypeId} {cs : Array Value} (h : Has w g t cs) (o : Obj) : Has (w.alloc o) g t cs := (Below.heap_alloc w o g h.size).trans h
theorem Has.put {w : World} {g : Nat} {t : TypeId} {cs : Array Value} (h : Has w g t cs) (i : Nat) (v : Value) : Has (w.setCell ⟨g, i, none⟩ v) g t (cs.setIfInBounds i v) := heap_setCell_same w g i cs t v h
theorem Has.by {w : World} {g : Nat} {t : TypeId} {cs : Array Value} (h : Has w g t cs) {a : Addr} (hne : g ≠ a.block) (v : Value) : Has (w.setCell a v) g t cs := (heap_setCell_other w a g v hne).trans h
theorem Has.below {w w' : World} {g B : Nat} {t : TypeId} {cs : Array Value} (h : Has w g t cs) (hb : Below B w w') (hg : g < B) : Has w' g t cs := (hb.block g hg).trans h
theorem Has.kept {w w' : World} {g : Nat} {t : TypeId} {cs : Array Value} (h : Has w g t cs) (hb : Below w.heap.size w w') : Has w' g t cs := h.below hb h.size

def nums (zs : List Int) : List Value := zs.map (Value.int .u8)
theorem nums_one (zs : List Int) : ∀ u ∈ nums zs, u.oneCell' = true := by
  intro u hu
  obtain ⟨x, _, rfl⟩ := List.mem_map.1 hu
  rfl
theorem nums_len (zs : List Int) : (nums zs).length = zs.length := by simp [nums]
def I64 (x : Int) : Prop := -9223372036854775808 ≤ x ∧ x ≤ 9223372036854775807
/-- An image. -/
structure Im where
  ver : Int
  size : Int
  dig : List Int
instance : DecidableEq Im := fun a b => decidable_of_iff (a.ver = b.ver ∧ a.size = b.size ∧ a.dig = b.dig) (by cases a; cases b; simp)
/-- What a tenant keeps. -/
structure Mt where
  act : Int
  h0 : Im
  h1 : Im
  least : Int
  phase : Int
  com : Im
  gott : Int
  trials : Int
instance : DecidableEq Mt := fun a b => decidable_of_iff (a.act = b.act ∧ a.h0 = b.h0 ∧ a.h1 = b.h1 ∧ a.least = b.least ∧ a.phase = b.phase ∧ a.com = b.com ∧ a.gott = b.gott ∧ a.trials = b.trials) (by cases a; cases b; simp)
def Im.Ok (i : Im) : Prop := i.dig.length = 32 ∧ Byt i.dig ∧ I64 i.ver ∧ I64 i.size
structure Mt.Ok (m : Mt) : Prop where
  h0 : m.h0.Ok
  h1 : m.h1.Ok
  com : m.com.Ok
  act : I64 m.act
  least : I64 m.least
  phase : I64 m.phase
  gott : I64 m.gott
  trials : I64 m.trials
def zs32 : List Int := List.replicate 32 0
def zeroI : Im := ⟨0, 0, List.replicate 32 0⟩
def zeroT : Mt := ⟨0, zeroI, zeroI, 0, 0, zeroI, 0, 0⟩
theorem i64_zero : I64 0 := by unfold I64; omega
theorem zeroI_ok : zeroI.Ok := ⟨List.length_replicate, byt_rep _, i64_zero, i64_zero⟩
theorem zeroT_ok : zeroT.Ok := ⟨zeroI_ok, zeroI_ok, zeroI_ok, i64_zero, i64_zero, i64_zero, i64_zero, i64_zero⟩
def Mt.own (m : Mt) : Im := if m.act = 0 then m.h0 else m.h1
def Mt.oth (m : Mt) : Im := if m.act = 0 then m.h1 else m.h0
/-- An image's cells, and what is kept. -/
def Im.list (i : Im) : List Value := Value.int .i64 i.ver :: Value.int .i64 i.size :: nums i.dig
def Im.cells (i : Im) : Array Value := i.list.toArray
def Mt.list (m : Mt) : List Value := Value.int .i64 m.act :: (m.h0.list ++ (m.h1.list ++ (Value.int .i64 m.least :: Value.int .i64 m.phase :: (m.com.list ++ [Value.int .i64 m.gott, Value.int .i64 m.trials]))))
def Mt.cells (m : Mt) : Array Value := m.list.toArray
theorem iml_len {i : Im} (h : i.Ok) : i.list.length = 34 := by simp [Im.list, nums, h.1]
theorem mtl_len {m : Mt} (h : m.Ok) : m.list.length = 107 := by simp [Mt.list, iml_len h.h0, iml_len h.h1, iml_len h.com]
theorem im_size {i : Im} (h : i.Ok) : i.cells.size = 34 := by simp [Im.cells, iml_len h]
theorem mt_size {m : Mt} (h : m.Ok) : m.cells.size = 107 := by simp [Mt.cells, mtl_len h]
theorem iml_one (i : Im) : ∀ v ∈ i.list, v.oneCell' = true := by
  intro v hv
  simp only [Im.list, List.mem_cons] at hv
  rcases hv with rfl | rfl | hv
  · rfl
  · rfl
  · exact nums_one _ v hv
theorem mtl_one (m : Mt) : ∀ v ∈ m.list, v.oneCell' = true := by
  intro v hv
  simp only [Mt.list, List.mem_cons, List.mem_append, List.not_mem_nil, or_false] at hv
  rcases hv with rfl | hv | hv | rfl | rfl | hv | rfl | rfl
  · rfl
  · exact iml_one _ v hv
  · exact iml_one _ v hv
  · rfl
  · rfl
  · exact iml_one _ v hv
  · rfl
  · rfl
theorem im_all (i : Im) : i.cells.all (·.oneCell') = true := all_oneCell_toArray (iml_one i)
theorem mt_all (m : Mt) : m.cells.all (·.oneCell') = true := all_oneCell_toArray (mtl_one m)
theorem size24 {i : Im} (h : i.Ok) : (Try.prog.info? 24).map (·.size) = some i.cells.size := by rw [im_size h]; kernel_rfl
theorem size24l {i : Im} (h : i.Ok) : (Try.prog.info? 24).map (·.size) = some i.list.length := by rw [iml_len h]; kernel_rfl
theorem size27 {m : Mt} (h : m.Ok) : (Try.prog.info? 27).map (·.size) = some m.cells.size := by rw [mt_size h]; kernel_rfl
theorem old24 {i k : Im} (h : i.Ok) (h' : k.Ok) : i.cells.size = k.cells.size := by rw [im_size h, im_size h']
theorem old27 {m k : Mt} (h : m.Ok) (h' : k.Ok) : m.cells.size = k.cells.size := by rw [mt_size h, mt_size h']
theorem zero24_run : ∀ w : World, (zeroValue 24).run Try.prog w = .ok (.agg zeroI.cells) w := (zero_of_info (P := Try.prog) (t := 24) (n := 34) (by kernel_rfl)).1
theorem zero27_run : ∀ w : World, (zeroValue 27).run Try.prog w = .ok (.agg zeroT.cells) w := (zero_of_info (P := Try.prog) (t := 27) (n := 107) (by kernel_rfl)).1
theorem built24 : Try.prog.built 24 [] = some zeroI.cells := by kernel_rfl
theorem built27 : Try.prog.built 27 [] = some zeroT.cells := by kernel_rfl
theorem built24b (v n : Int) : Try.prog.built 24 [(0, .int .i64 v), (1, .int .i64 n)] = some (Im.cells ⟨v, n, List.replicate 32 0⟩) := by kernel_rfl
theorem built27a (v : Int) : Try.prog.built 27 [(0, .int .i64 v)] = some (Mt.cells ⟨v, zeroI, zeroI, 0, 0, zeroI, 0, 0⟩) := by kernel_rfl

/-! Where each part lies -/
theorem mt_0 (m : Mt) : m.cells[0]? = some (.int .i64 m.act) := rfl
theorem mt_h0 {m : Mt} (h : m.Ok) (j : Nat) (hj : j < 34) : m.cells[1 + j]? = m.h0.list[j]? := by
  have l0 := iml_len h.h0
  simp only [Mt.cells, List.getElem?_toArray, Mt.list]
  rw [Nat.add_comm, List.getElem?_cons_succ, List.getElem?_append_left (by omega)]
theorem mt_h1 {m : Mt} (h : m.Ok) (j : Nat) (hj : j < 34) : m.cells[35 + j]? = m.h1.list[j]? := by
  have l0 := iml_len h.h0
  have l1 := iml_len h.h1
  simp only [Mt.cells, List.getElem?_toArray, Mt.list]
  rw [show 35 + j = (34 + j) + 1 by omega, List.getElem?_cons_succ, List.getElem?_append_right (by omega), List.getElem?_append_left (by omega)]
  congr 1; omega
theorem mt_tail {m : Mt} (h : m.Ok) (j : Nat) : m.cells[69 + j]? = (Value.int .i64 m.least :: Value.int .i64 m.phase :: (m.com.list ++ [Value.int .i64 m.gott, Value.int .i64 m.trials]))[j]? := by
  have l0 := iml_len h.h0
  have l1 := iml_len h.h1
  simp only [Mt.cells, List.getElem?_toArray, Mt.list]
  rw [show 69 + j = (68 + j) + 1 by omega, List.getElem?_cons_succ, List.getElem?_append_right (by omega), List.getElem?_append_right (by omega)]
  congr 1; omega
theorem mt_least {m : Mt} (h : m.Ok) : m.cells[69]? = some (.int .i64 m.least) := mt_tail h 0
theorem mt_phase {m : Mt} (h : m.Ok) : m.cells[70]? = some (.int .i64 m.phase) := mt_tail h 1
theorem mt_com {m : Mt} (h : m.Ok) (j : Nat) (hj : j < 34) : m.cells[71 + j]? = m.com.list[j]? := by
  have l2 := iml_len h.com
  rw [show 71 + j = 69 + (j + 2) by omega, mt_tail h, List.getElem?_cons_succ, List.getElem?_cons_succ, List.getElem?_append_left (by omega)]
theorem mt_gott {m : Mt} (h : m.Ok) : m.cells[105]? = some (.int .i64 m.gott) := by
  have l2 := iml_len h.com
  rw [show 105 = 69 + 36 by omega, mt_tail h, List.getElem?_cons_succ, List.getElem?_cons_succ, List.getElem?_append_right (by omega), l2]
  rfl
theorem mt_trials {m : Mt} (h : m.Ok) : m.cells[106]? = some (.int .i64 m.trials) := by
  have l2 := iml_len h.com
  rw [show 106 = 69 + 37 by omega, mt_tail h, List.getElem?_cons_succ, List.getElem?_cons_succ, List.getElem?_append_right (by omega), l2]
  rfl
theorem lt_list {i : Im} (h : i.Ok) {j : Nat} {v : Value} (hv : i.list[j]? = some v) : j < 34 := by
  have := (List.getElem?_eq_some_iff.1 hv).1
  rwa [iml_len h] at this
theorem rng_h0 {w : World} {g : Nat} {m : Mt} (hg : Has w g 27 m.cells) (h : m.Ok) : w.rangeAt g 1 m.h0.list := fun j v hv => by rw [hg.at, mt_h0 h j (lt_list h.h0 hv)]; exact hv
theorem rng_h1 {w : World} {g : Nat} {m : Mt} (hg : Has w g 27 m.cells) (h : m.Ok) : w.rangeAt g 35 m.h1.list := fun j v hv => by rw [hg.at, mt_h1 h j (lt_list h.h1 hv)]; exact hv
theorem rng_com {w : World} {g : Nat} {m : Mt} (hg : Has w g 27 m.cells) (h : m.Ok) : w.rangeAt g 71 m.com.list := fun j v hv => by rw [hg.at, mt_com h j (lt_list h.com hv)]; exact hv
theorem ld24 {w : World} {g o : Nat} {i : Im} (hr : w.rangeAt g o i.list) (h : i.Ok) : (Instr.loadAt 24 (.pointer (some ⟨g, o, none⟩))).run Try.prog w = .ok (.agg i.cells) w :=
  run_loadAt_mid w g o 24 i.list _ hr Try.underlying24 rfl (size24l h)
theorem ld24w {w : World} {g : Nat} {i : Im} (hg : Has w g 24 i.cells) (h : i.Ok) : (Instr.loadAt 24 (.pointer (some ⟨g, 0, none⟩))).run Try.prog w = .ok (.agg i.cells) w := by
  simp only [Instr.loadAt, Instr.sureAddr, Sem.run_bind, Sem.run_pure, Result.andThen_ok, run_loadVar_row w g 24 24 i.cells (0, 0) _ hg Try.underlying24 rfl (size24 h)]
theorem ld27 {w : World} {g : Nat} {m : Mt} (hg : Has w g 27 m.cells) (h : m.Ok) : (Instr.loadAt 27 (.pointer (some ⟨g, 0, none⟩))).run Try.prog w = .ok (.agg m.cells) w := by
  simp only [Instr.loadAt, Instr.sureAddr, Sem.run_bind, Sem.run_pure, Result.andThen_ok, run_loadVar_row w g 27 27 m.cells (0, 0) _ hg Try.underlying27 rfl (size27 h)]
/-- All that is read of what is kept, in a world. -/
structure Seen (w : World) (g : Nat) (m : Mt) : Prop where
  act : w.cell? ⟨g, 0, none⟩ = some (.int .i64 m.act)
  v0 : w.cell? ⟨g, 1, none⟩ = some (.int .i64 m.h0.ver)
  v1 : w.cell? ⟨g, 35, none⟩ = some (.int .i64 m.h1.ver)
  least : w.cell? ⟨g, 69, none⟩ = some (.int .i64 m.least)
  phase : w.cell? ⟨g, 70, none⟩ = some (.int .i64 m.phase)
  v2 : w.cell? ⟨g, 71, none⟩ = some (.int .i64 m.com.ver)
  s2 : w.cell? ⟨g, 72, none⟩ = some (.int .i64 m.com.size)
  gott : w.cell? ⟨g, 105, none⟩ = some (.int .i64 m.gott)
  trials : w.cell? ⟨g, 106, none⟩ = some (.int .i64 m.trials)
  l0 : (Instr.loadAt 24 (.pointer (some ⟨g, 1, none⟩))).run Try.prog w = .ok (.agg m.h0.cells) w
  l1 : (Instr.loadAt 24 (.pointer (some ⟨g, 35, none⟩))).run Try.prog w = .ok (.agg m.h1.cells) w
  l2 : (Instr.loadAt 24 (.pointer (some ⟨g, 71, none⟩))).run Try.prog w = .ok (.agg m.com.cells) w
  all : (Instr.loadAt 27 (.pointer (some ⟨g, 0, none⟩))).run Try.prog w = .ok (.agg m.cells) w
theorem seen_of {w : World} {g : Nat} {m : Mt} (hg : Has w g 27 m.cells) (h : m.Ok) : Seen w g m :=
  ⟨hg.at 0, (hg.at 1).trans (mt_h0 h 0 (by omega)), (hg.at 35).trans (mt_h1 h 0 (by omega)), (hg.at 69).trans (mt_least h), (hg.at 70).trans (mt_phase h), (hg.at 71).trans (mt_com h 0 (by omega)), (hg.at 72).trans (mt_com h 1 (by omega)),
    (hg.at 105).trans (mt_gott h), (hg.at 106).trans (mt_trials h), ld24 (rng_h0 hg h) h.h0, ld24 (rng_h1 hg h) h.h1, ld24 (rng_com hg h) h.com, ld27 hg h⟩

/-! What is written into it -/
theorem mt_set0 (m : Mt) (v : Int) : m.cells.setIfInBounds 0 (.int .i64 v) = Mt.cells { m with act := v } := by simp [Mt.cells, Mt.list]
theorem set_tail (m : Mt) (v : Value) (j : Nat) (h : m.Ok) : m.cells.setIfInBounds (69 + j) v = (Value.int .i64 m.act :: (m.h0.list ++ (m.h1.list ++ ((Value.int .i64 m.least :: Value.int .i64 m.phase :: (m.com.list ++ [Value.int .i64 m.gott, Value.int .i64 m.trials])).set j v)))).toArray := by
  have l0 := iml_len h.h0
  have l1 := iml_len h.h1
  simp only [Mt.cells, Mt.list, List.setIfInBounds_toArray]
  rw [show 69 + j = (68 + j) + 1 by omega, List.set_cons_succ, List.set_append_right _ _ (by omega), List.set_append_right _ _ (by omega), show 68 + j - m.h0.list.length - m.h1.list.length = j by omega]
theorem mt_set69 {m : Mt} (v : Int) (h : m.Ok) : m.cells.setIfInBounds 69 (.int .i64 v) = Mt.cells { m with least := v } := set_tail m _ 0 h
theorem mt_set70 {m : Mt} (v : Int) (h : m.Ok) : m.cells.setIfInBounds 70 (.int .i64 v) = Mt.cells { m with phase := v } := set_tail m _ 1 h
theorem mt_set105 {m : Mt} (v : Int) (h : m.Ok) : m.cells.setIfInBounds 105 (.int .i64 v) = Mt.cells { m with gott := v } := by
  have l2 := iml_len h.com
  rw [show 105 = 69 + 36 by omega, set_tail m _ 36 h, List.set_cons_succ, List.set_cons_succ, List.set_append_right _ _ (by omega), l2]
  rfl
theorem mt_set106 {m : Mt} (v : Int) (h : m.Ok) : m.cells.setIfInBounds 106 (.int .i64 v) = Mt.cells { m with trials := v } := by
  have l2 := iml_len h.com
  rw [show 106 = 69 + 37 by omega, set_tail m _ 37 h, List.set_cons_succ, List.set_cons_succ, List.set_append_right _ _ (by omega), l2]
  rfl
theorem mt_put0 {m : Mt} (i : Im) (h : m.Ok) (hi : i.Ok) : (m.cells.toList.take 1 ++ i.list ++ m.cells.toList.drop (1 + i.list.length)).toArray = Mt.cells { m with h0 := i } := by
  have l0 := iml_len h.h0
  have l := iml_len hi
  simp only [Mt.cells, Mt.list, List.take_succ_cons, List.take_zero, l]
  rw [show 1 + 34 = 34 + 1 from rfl, List.drop_succ_cons, List.drop_left' l0]
  simp
theorem mt_put1 {m : Mt} (i : Im) (h : m.Ok) (hi : i.Ok) : (m.cells.toList.take 35 ++ i.list ++ m.cells.toList.drop (35 + i.list.length)).toArray = Mt.cells { m with h1 := i } := by
  have l0 := iml_len h.h0
  have l1 := iml_len h.h1
  have l := iml_len hi
  simp only [Mt.cells, Mt.list, l]
  rw [show 35 + 34 = (34 + 34) + 1 from rfl, List.drop_succ_cons, show 35 = 34 + 1 from rfl, List.take_succ_cons, List.take_left' l0, ← List.drop_drop, List.drop_left' l0, List.drop_left' l1]
  simp
theorem mt_put2 {m : Mt} (i : Im) (h : m.Ok) (hi : i.Ok) : (m.cells.toList.take 71 ++ i.list ++ m.cells.toList.drop (71 + i.list.length)).toArray = Mt.cells { m with com := i } := by
  have l0 := iml_len h.h0
  have l1 := iml_len h.h1
  have l2 := iml_len h.com
  have l := iml_len hi
  obtain ⟨A, hA⟩ : ∃ A, A = Value.int .i64 m.act :: (m.h0.list ++ (m.h1.list ++ [Value.int .i64 m.least, Value.int .i64 m.phase])) := ⟨_, rfl⟩
  have lA : A.length = 71 := by simp [hA, l0, l1]
  have e : ∀ c : Im, (Mt.cells { m with com := c }).toList = A ++ (c.list ++ [Value.int .i64 m.gott, Value.int .i64 m.trials]) := by
    intro c
    simp [Mt.cells, Mt.list, hA]
  have e1 : m.cells.toList = A ++ (m.com.list ++ [Value.int .i64 m.gott, Value.int .i64 m.trials]) := e m.com
  apply Array.ext'
  rw [e i, e1, List.take_left' lA, ← List.drop_drop, List.drop_left' lA, l, List.drop_left' l2]
  simp
end Go.Proofs.Ytjljciimppmlnaa
