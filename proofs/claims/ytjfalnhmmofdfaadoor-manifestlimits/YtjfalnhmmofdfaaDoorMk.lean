/-
  A manifest in memory: its cells, the zero one, what is stored into it, how two that are the same compare; a text as a row of bytes; conditions: as each states.
-/
import Derived.Test.YtjfalnhmmofdfaaDoorMp
import Derived.Test.YtjfalnhmmofdfaaDoorRx
import Derived.Test.YtjfalnhmmofdfaaDoorLive
import Derived.Test.YtjfalnhmmofdfaaDoorShaLaid
import Derived.Test.YtjfalnhmmofdfaaDoorShaTag
import Derived.Laws.StructEq
import Derived.Laws.IdiomStrings
namespace Go.Proofs.YtjfalnhmmofdfaaDoor
open Go.RowKit
set_option linter.unusedVariables false
set_option linter.unusedSimpArgs false

theorem row_sha {w : World} {a : Option Addr} {n : Nat} {zs : List Int} (h : Row w a n zs) : Sha.Row w a n zs := h
theorem own_sha {w : World} {b n : Nat} {v : Value} {zs : List Int} (h : Own w b v n zs) : Sha.Own w b v n zs := h
theorem has_sha {w : World} {g : Nat} {t : TypeId} {cs : Array Value} (h : Has w g t cs) : Sha.Has w g t cs := h
theorem sha_has {w : World} {g : Nat} {t : TypeId} {cs : Array Value} (h : Sha.Has w g t cs) : Has w g t cs := h
theorem sha_row {w : World} {a : Option Addr} {n : Nat} {zs : List Int} (h : Sha.Row w a n zs) : Row w a n zs := h
theorem nums_sha (zs : List Int) : Sha.nums zs = nums zs := rfl

/-- A manifest's cells. -/
def Mn.cells (m : Mn) : Array Value := (Value.string m.name :: Value.int .i64 m.ver :: Value.int .i64 m.size :: nums m.dig).toArray
theorem mn_size {m : Mn} (h : m.dig.length = 32) : m.cells.size = 35 := by simp [Mn.cells, nums, h]
theorem mn_name (m : Mn) : m.cells[0]? = some (.string m.name) := rfl
theorem mn_ver (m : Mn) : m.cells[1]? = some (.int .i64 m.ver) := rfl
theorem mn_siz (m : Mn) : m.cells[2]? = some (.int .i64 m.size) := rfl
theorem mn_dig (m : Mn) (j : Nat) (hj : j < m.dig.length) : m.cells[3 + j]? = some (.int .u8 (m.dig.getD j 0)) := by
  have e : 3 + j = j + 3 := by omega
  rw [e]
  simp [Mn.cells, nums, List.getElem?_eq_getElem hj, List.getD_eq_getElem?_getD]
theorem mn_all (m : Mn) : m.cells.all (·.oneCell') = true := by
  rw [Array.all_eq_true_iff_forall_mem]
  intro v hv
  simp only [Mn.cells, List.mem_toArray, List.mem_cons] at hv
  rcases hv with rfl | rfl | rfl | hv
  · rfl
  · rfl
  · rfl
  · exact nums_one m.dig v hv
theorem size27 {m : Mn} (h : m.dig.length = 32) : (Tryd.prog.info? 27).map (·.size) = some m.cells.size := by
  rw [mn_size h]; kernel_rfl
theorem old27 {m k : Mn} (h : m.dig.length = 32) (h' : k.dig.length = 32) : m.cells.size = k.cells.size := by rw [mn_size h, mn_size h']
theorem zero_len : zeroM.dig.length = 32 := List.length_replicate
theorem zero_ok : zeroM.Ok := ⟨zero_len, byt_rep _, by unfold I64 zeroM; simp, by unfold I64 zeroM; simp⟩
theorem zero27_run : ∀ w : World, (zeroValue 27).run Tryd.prog w = .ok (.agg zeroM.cells) w := (zero_of_info (P := Tryd.prog) (t := 27) (n := 35) (by kernel_rfl)).1
theorem zero23_run : ∀ w : World, (zeroValue 23).run Tryd.prog w = .ok (.agg (nums (List.replicate 32 0)).toArray) w := Sha.zero24_run
theorem built27 : Tryd.prog.built 27 [] = some zeroM.cells := by kernel_rfl
/-- An image's cells. -/
def imgC (v n : Int) (d : List Int) : Array Value := (Value.int .i64 v :: Value.int .i64 n :: nums d).toArray
theorem built25 (v n : Int) : Tryd.prog.built 25 [(0, .int .i64 v), (1, .int .i64 n)] = some (imgC v n (List.replicate 32 0)) := by kernel_rfl
theorem built27i (s : ByteArray) (v n : Int) : Tryd.prog.built 27 [(0, .string s), (1, .agg (imgC v n (List.replicate 32 0)))] = some (Mn.cells ⟨s, v, n, List.replicate 32 0⟩) := by kernel_rfl
theorem mn_set0 (m : Mn) (s : ByteArray) : m.cells.setIfInBounds 0 (.string s) = Mn.cells ⟨s, m.ver, m.size, m.dig⟩ := by simp [Mn.cells]
theorem mn_set1 (m : Mn) (v : Int) : m.cells.setIfInBounds 1 (.int .i64 v) = Mn.cells ⟨m.name, v, m.size, m.dig⟩ := by simp [Mn.cells]
theorem mn_set2 (m : Mn) (v : Int) : m.cells.setIfInBounds 2 (.int .i64 v) = Mn.cells ⟨m.name, m.ver, v, m.dig⟩ := by simp [Mn.cells]
theorem mn_copy (m : Mn) (ys : List Int) (h : m.dig.length = 32) (hy : ys.length = 32) : (m.cells.toList.take 3 ++ (nums (ys.take 32) ++ m.cells.toList.drop (3 + 32))).toArray = Mn.cells ⟨m.name, m.ver, m.size, ys⟩ := by
  have e1 : m.cells.toList.take 3 = [Value.string m.name, Value.int .i64 m.ver, Value.int .i64 m.size] := rfl
  have e2 : m.cells.toList.drop (3 + 32) = [] := by
    apply List.drop_eq_nil_of_le
    rw [Array.length_toList, mn_size h]; omega
  rw [e1, e2, List.take_of_length_le (by omega)]
  simp [Mn.cells]
/-- The digest of a manifest in memory, as a row. -/
theorem dig_row {w : World} {g : Nat} {m : Mn} (h : Has w g 27 m.cells) (hl : m.dig.length = 32) (hb : Byt m.dig) : Row w (some ⟨g, 3, none⟩) 32 m.dig :=
  row_mk hl hb h.size (fun j hj => by rw [h.at, mn_dig m j (by omega)])

theorem bytes_beq (a : ByteArray) : (a.toList == a.toList) = true := by simp
theorem eq23 (zs : List Int) (h : zs.length = 32) (w : World) (d : Nat) : (Op.equalIn (d + 2) 23 (.agg (nums zs).toArray) (.agg (nums zs).toArray)).run Tryd.prog w = .ok true w := by
  obtain ⟨i, hi, _, _, _⟩ := info_parts info5
  rw [run_equalIn_array w (d + 1) (nums zs).toArray (nums zs).toArray Tryd.underlying23 hi, show Tryd.prog.cellsOf 5 = 1 by kernel_rfl]
  have key : ∀ is : List Nat, (∀ i ∈ is, i < zs.length) → (Op.eqItems (d + 1) 5 1 (nums zs).toArray (nums zs).toArray is).run Tryd.prog w = .ok true w := by
    intro is
    induction is with
    | nil => intro _; simp [Op.eqItems]
    | cons i is ih =>
      intro hh
      have hi : i < zs.length := hh i (by simp)
      have hp : (part 5 (nums zs).toArray (i * 1)).run Tryd.prog w = .ok (.int .u8 zs[i]) w := by
        have hc : (nums zs).toArray[i]? = some (.int .u8 zs[i]) := by simp [nums, hi]
        simp [part, go_sem, hc]
      have he : (Op.equalIn (d + 1) 5 (.int .u8 zs[i]) (.int .u8 zs[i])).run Tryd.prog w = .ok true w := by
        rw [run_equalIn_int w d 5 .u8 .u8 _ _ Tryd.underlying5]; simp
      simp only [Op.eqItems, Sem.run_bind, hp, Result.andThen_ok, he, Bool.not_true, Bool.false_eq_true, if_false]
      exact ih (fun j hj => hh j (by simp [hj]))
  exact key _ (fun i hi => by rw [h]; exact List.mem_range.1 hi)
theorem img_parts (m : Mn) (h : m.dig.length = 32) : m.cells.extract 1 (1 + 34) = imgC m.ver m.size m.dig ∧ (imgC m.ver m.size m.dig).extract 2 (2 + 32) = (nums m.dig).toArray := by
  have h2 : (nums m.dig).length = 32 := by rw [nums_len, h]
  constructor
  · simp [Mn.cells, imgC]
    exact List.take_of_length_le (by omega)
  · simp [imgC]
    exact List.take_of_length_le (by omega)
/-- A manifest is the same as itself. -/
theorem eq27 (m : Mn) (h : m.dig.length = 32) (w : World) : (Op.equalIn 10000 27 (.agg m.cells) (.agg m.cells)).run Tryd.prog w = .ok true w := by
  obtain ⟨e1, e2⟩ := img_parts m h
  have u27 : Tryd.prog.underlying 27 = some (.struct (Tryd.prog.fieldsOf 27)) := by kernel_rfl
  have u25 : Tryd.prog.underlying 25 = some (.struct (Tryd.prog.fieldsOf 25)) := by kernel_rfl
  have s27 : Tryd.prog.stoodInHeld 27 = false := by kernel_rfl
  have s25 : Tryd.prog.stoodInHeld 25 = false := by kernel_rfl
  have z25 : ∀ w : World, (sizeOf 25).run Tryd.prog w = .ok 34 w := fun w => by
    obtain ⟨i, hi, hsz⟩ := Option.map_eq_some_iff.1 (show (Tryd.prog.info? 25).map (·.size) = some 34 by kernel_rfl)
    simp [sizeOf, typeInfo, hi, hsz]
  have z23 : ∀ w : World, (sizeOf 23).run Tryd.prog w = .ok 32 w := fun w => by
    obtain ⟨i, hi, hsz⟩ := Option.map_eq_some_iff.1 (show (Tryd.prog.info? 23).map (·.size) = some 32 by kernel_rfl)
    simp [sizeOf, typeInfo, hi, hsz]
  have a25 : ∀ w : World, (isAgg 25).run Tryd.prog w = .ok true w := fun w => by unfold isAgg; rw [Sem.run_bind, run_underlying u25 w]; rfl
  have a23 : ∀ w : World, (isAgg 23).run Tryd.prog w = .ok true w := fun w => by unfold isAgg; rw [Sem.run_bind, run_underlying Tryd.underlying23 w]; rfl
  have a9 : ∀ w : World, (isAgg 9).run Tryd.prog w = .ok false w := fun w => by unfold isAgg; rw [Sem.run_bind, run_underlying Tryd.underlying9 w]; rfl
  have a3 : ∀ w : World, (isAgg 3).run Tryd.prog w = .ok false w := fun w => by unfold isAgg; rw [Sem.run_bind, run_underlying Tryd.underlying3 w]; rfl
  have p9 : ∀ w : World, (part 9 m.cells 0).run Tryd.prog w = .ok (.string m.name) w := fun w => by unfold part; rw [Sem.run_bind, a9]; rfl
  have p25 : ∀ w : World, (part 25 m.cells 1).run Tryd.prog w = .ok (.agg (imgC m.ver m.size m.dig)) w := fun w => by
    unfold part; rw [Sem.run_bind, a25]
    simp only [Result.andThen_ok, if_true, Sem.run_bind, z25, Sem.run_pure, e1]
  have p3 : ∀ w : World, (part 3 (imgC m.ver m.size m.dig) 0).run Tryd.prog w = .ok (.int .i64 m.ver) w := fun w => by unfold part; rw [Sem.run_bind, a3]; rfl
  have p3' : ∀ w : World, (part 3 (imgC m.ver m.size m.dig) 1).run Tryd.prog w = .ok (.int .i64 m.size) w := fun w => by unfold part; rw [Sem.run_bind, a3]; rfl
  have p23 : ∀ w : World, (part 23 (imgC m.ver m.size m.dig) 2).run Tryd.prog w = .ok (.agg (nums m.dig).toArray) w := fun w => by
    unfold part; rw [Sem.run_bind, a23]
    simp only [Result.andThen_ok, if_true, Sem.run_bind, z23, Sem.run_pure, e2]
  have q23 := fun w => eq23 m.dig h w 9996
  have qi : ∀ w : World, (Op.equalIn 9999 25 (.agg (imgC m.ver m.size m.dig)) (.agg (imgC m.ver m.size m.dig))).run Tryd.prog w = .ok true w := fun w => by
    rw [show (9999 : Nat) = 9998 + 1 from rfl, run_equalIn_agg w 9998 25 _ _ u25 s25]
    simp only [Program.fieldsOf, Tryd.underlying25, Op.eqFields, ne_eq, reduceCtorEq, not_false_eq_true, if_true, Sem.run_bind, p3, p3', p23, Result.andThen_ok, run_equalIn_int w 9997 3 .i64 .i64 _ _ Tryd.underlying3, q23, beq_self_eq_true, Bool.not_true, Bool.false_eq_true, if_false, Sem.run_pure, Sem.run_ite]
    rfl
  rw [show (10000 : Nat) = 9999 + 1 from rfl, run_equalIn_agg w 9999 27 _ _ u27 s27]
  simp only [Program.fieldsOf, Tryd.underlying27, Op.eqFields, ne_eq, reduceCtorEq, not_false_eq_true, if_true, Sem.run_bind, p9, p25, Result.andThen_ok, run_equalIn_string w 9998 9 _ _ Tryd.underlying9, qi, beq_self_eq_true, Bool.not_true, Bool.false_eq_true, if_false, Sem.run_pure, Sem.run_ite]
  rfl

/-- The world behind '[]byte(s)'. -/
def txtW (w : World) (s : ByteArray) : World := w.drew.alloc (.cells (bytesRow s (grownCap w s.size 0 5)) 5 ((bytesRow s (grownCap w s.size 0 5)).size, (bytesRow s (grownCap w s.size 0 5)).size + 1))
def txtC (w : World) (s : ByteArray) : Nat := grownCap w s.size 0 5
theorem txt_run (w : World) (s : ByteArray) : (convert 9 22 (.string s)).run Tryd.prog w = .ok (.slice (some ⟨w.heap.size, 0, none⟩) s.size (txtC w s)) (txtW w s) := run_bytes_of_string w 9 22 5 s Tryd.underlying9 Tryd.underlying22 Tryd.underlying5
theorem txt_below (w : World) (s : ByteArray) : Below w.heap.size w (txtW w s) := ((Below.refl _ _).drew).alloc (by simp) _
theorem txt_size (w : World) (s : ByteArray) : (txtW w s).heap.size = w.heap.size + 1 := by simp [txtW]
theorem txt_row (w : World) (s : ByteArray) : Row (txtW w s) (some ⟨w.heap.size, 0, none⟩) s.size (txtL s) := by
  refine row_mk (txt_len s) (txt_byt s) (by rw [txt_size]; omega) (fun j hj => ?_)
  unfold txtW
  rw [cell_of_row _ w.heap.size (0 + j) (bytesRow s (grownCap w s.size 0 5)) 5 _ (heap_alloc_new w.drew _), Nat.zero_add, bytesRow_at s _ j hj]
  have hj2 : j < s.data.toList.length := by rw [Nam.size_list]; exact hj
  simp [txtL, List.getD_eq_getElem?_getD, List.getElem?_eq_getElem hj2]
theorem txt_cap (s : ByteArray) (k : Nat) (h : k ≤ s.size) : txtL (s.extract 0 k) = (txtL s).take k := by
  simp [txtL, ByteArray.extract, ByteArray.copySlice]
end Go.Proofs.YtjfalnhmmofdfaaDoor
