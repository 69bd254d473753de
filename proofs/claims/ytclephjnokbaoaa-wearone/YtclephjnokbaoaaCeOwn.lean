/-
  Words on memory: a block that is known whole, a row of bytes, a row that a call made, append on it; conditions: as each states.
-/
import Derived.Test.YtclephjnokbaoaaRows
import Derived.Test.YtclephjnokbaoaaCePlain
import Derived.Test.YtclephjnokbaoaaNew
import Derived.WalkKit
import Derived.WalkSmall
import Derived.Lib.Hide
import Derived.LoopTactic
import Derived.Laws.BytesArg
import Derived.Laws.Rows
import Derived.Below
import Derived.Deep.Draws
import Derived.Laws.CopyOwn
import Derived.Maps.AppendAt
import Derived.OwnWalk
import Derived.OpenShut
import Derived.Lib.SlBytesConst
import Derived.Deep.RegionLaw
namespace Go.Proofs.Ytclephjnokbaoaa
open Go.RowKit
set_option linter.unusedVariables false
set_option linter.unusedSimpArgs false

/-- A row of bytes as a text. -/
theorem conv_row {w : World} {a : Option Addr} {n c : Nat} {zs : List Int} (h : Row w a n zs) : (convert 38 9 (.slice a n c)).run Try.prog w = .ok (.string (strOfNums zs)) w := by
  by_cases hn : 0 < n
  · obtain ⟨b, off, rfl, _, hc⟩ := row_open h hn
    exact run_convert_bytes_arg w 38 5 Try.underlying38 Try.underlying5 b off n c zs h.1 hc 9 Try.underlying9
  · obtain rfl : n = 0 := by omega
    obtain rfl : zs = [] := List.eq_nil_of_length_eq_zero h.1
    cases a with
    | none => exact run_convert_bytes_nil w 38 5 Try.underlying38 Try.underlying5 0 c 9 Try.underlying9
    | some ad =>
      have hl : (loadCells ad 0).run Try.prog w = .ok (([] : List Int).map (Value.int .u8)).toArray w := run_loadCells_list (P := Try.prog) w ad [] (fun j v hj => by simp at hj)
      rw [run_convert_bytes_string w 38 9 5 _ 0 c Try.underlying38 Try.underlying5 Try.underlying9, run_bytesToString w _ 0 c [] hl]
      rfl
theorem str_same {xs ys : List Int} (hx : Byt xs) (hy : Byt ys) : strOfNums xs = strOfNums ys ↔ xs = ys := by
  constructor
  · intro h
    have h2 : xs.map (fun n => UInt8.ofNat n.toNat) = ys.map (fun n => UInt8.ofNat n.toNat) := by rw [← strOfNums_data, ← strOfNums_data, h]
    have hl : xs.length = ys.length := by simpa using congrArg List.length h2
    refine List.ext_getElem hl fun i h3 h4 => ?_
    have h5 := congrArg (fun l => (l[i]?).map UInt8.toNat) h2
    simp only [List.getElem?_map, List.getElem?_eq_getElem h3, List.getElem?_eq_getElem h4, Option.map_some, Option.some.injEq, UInt8.toNat_ofNat'] at h5
    have b1 := hx _ (List.getElem_mem h3)
    have b2 := hy _ (List.getElem_mem h4)
    omega
  · rintro rfl
    rfl
theorem ce_make_bytes (kl kc : IntKind) (l c : Nat) (hlc : l ≤ c) (hc : c ≤ 1000000) (w : World) : (Instr.makeSlice 38 (.int kl (l : Int)) (.int kc (c : Int))).run Try.prog w = .ok (.slice (some ⟨w.heap.size, 0, none⟩) l c) (w.alloc (.cells (zeroBytes c) 5)) := by
  obtain ⟨i, hi, hz0, hz1, hz2⟩ := info_parts info5
  have h := run_make (P := Try.prog) w 38 5 i (.int .u8 0) Try.underlying38 hi hz0 kl kc l c (by omega) (by omega) (by rw [hz2]; omega) (by omega)
  rw [h, hz1]
  have e : madeCells (Value.int .u8 0).cells (((c : Int)).toNat * 1) = zeroBytes c := by
    unfold zeroBytes
    apply Array.ext'
    rw [show (Value.int .u8 0).cells = #[Value.int .u8 0] from rfl, toList_madeCells_one]
    simp [nums]
  rw [e]
  simp
theorem own_made (w : World) (base c : Nat) (hc : c ≤ 1000000) (hb : base ≤ w.heap.size) : Own (w.alloc (.cells (zeroBytes c) 5)) base (.slice (some ⟨w.heap.size, 0, none⟩) 0 c) 0 [] := by
  refine ⟨⟨by simp [nums], .inr ⟨w.heap.size, c, zeroBytes c, rfl, hb, heap_alloc_new w _, by omega, by unfold maxLen; omega, by simp [zeroBytes, nums], by simp [nums]⟩⟩, fun n hn => by simp at hn⟩
/-- A call answers a new row. -/
def CeGives (n : Nat) (zs : List Int) (w : World) (e : Ending) (w' : World) : Prop := ∃ v, e = .returned v ∧ Own w' w.heap.size v n zs ∧ Below w.heap.size w w'
theorem row_two (w : World) {x y : Int} (hx : 0 ≤ x ∧ x ≤ 255) (hy : 0 ≤ y ∧ y ≤ 255) : Row (w.alloc (.cells #[.int .u8 x, .int .u8 y] 5)) (some ⟨w.heap.size, 0, none⟩) 2 [x, y] := row_text w [x, y] (byt_two hx hy) 2 rfl (0, 0)
theorem row_one (w : World) {x : Int} (hx : 0 ≤ x ∧ x ≤ 255) : Row (w.alloc (.cells #[.int .u8 x] 5)) (some ⟨w.heap.size, 0, none⟩) 1 [x] := row_text w [x] (ce_byt_one hx) 1 rfl (0, 0)
theorem nums_at {L : List Int} {j : Nat} (h : j < L.length) : (nums L).toArray[j]? = some (.int .u8 (L.getD j 0)) := by
  simp only [nums, List.getElem?_toArray, List.getElem?_map, List.getD_eq_getElem?_getD]
  rw [List.getElem?_eq_getElem h]
  rfl
theorem has_at {w : World} {G : Nat} {L : List Int} (h : Has w G 5 (nums L).toArray) {j : Nat} (hj : j < L.length) : w.cell? ⟨G, j, none⟩ = some (.int .u8 (L.getD j 0)) := by rw [h.at, nums_at hj]
theorem has_set {w : World} {G : Nat} {L : List Int} (h : Has w G 5 (nums L).toArray) (j : Nat) (y : Int) : Has (w.setCell ⟨G, j, none⟩ (.int .u8 y)) G 5 (nums (L.set j y)).toArray := by
  have := h.put j (.int .u8 y)
  rwa [show (nums L).toArray.setIfInBounds j (.int .u8 y) = (nums (L.set j y)).toArray by simp [nums, List.map_set]] at this
theorem has_row {w : World} {G : Nat} {L : List Int} (h : Has w G 5 (nums L).toArray) (hb : Byt L) : Row w (some ⟨G, 0, none⟩) L.length L :=
  row_mk rfl hb h.size (fun j hj => by rw [Nat.zero_add]; exact has_at h hj)
theorem belowThen {w w1 w2 : World} (h : Below w.heap.size w w1) (h2 : Below w1.heap.size w1 w2) : Below w.heap.size w w2 := h.trans (h2.mono h.size)
/-- A row that a call made, laid open: its block. -/
theorem own_block {w : World} {base : Nat} {v : Value} {n : Nat} {zs : List Int} (h : Own w base v n zs) (hn : 0 < n) : ∃ g cap cur, v = .slice (some ⟨g, 0, none⟩) n cap ∧ base ≤ g ∧ Has w g 5 cur ∧ n ≤ cap ∧ cur.toList.take n = nums zs ∧ ∀ j, j < n → w.cell? ⟨g, j, none⟩ = some (.int .u8 (zs.getD j 0)) := by
  have hl := h.len
  rcases h.1.2 with ⟨_, e⟩ | ⟨g, cap, cur, e1, e2, e3, e4, e5, e6, e7⟩
  · omega
  · have e7' : cur.toList.take n = nums zs := by simpa using e7
    refine ⟨g, cap, cur, e1, e2, e3, e4, e7', fun j hj => ?_⟩
    rw [cell_of_row w g j cur 5 (0, 0) e3]
    have q1 : cur[j]? = (cur.toList.take n)[j]? := by rw [List.getElem?_take, if_pos hj]; simp
    rw [q1, e7']
    simp only [nums, List.getElem?_map, List.getD_eq_getElem?_getD]
    rw [List.getElem?_eq_getElem (by omega)]
    rfl
/-- An append of a drawn region whose run is known. -/
theorem step_run {w : World} {ops : Array Oper} {o : Oper} {a : Act} {K : Act → World → Prop} {Q : Exit → Act → World → Prop} {E : Prop} (hw : Region.wanted o (yielded ops a.tmps) = true) (s x : Operand)
    (ho : o.op = .call { callee := .builtin .append, args := #[s, x], argTypes := #[38, 38] }) (t : TypeId) (hty : o.type = t) (v u v' : Value) (hs : a.eval s = v) (hx : a.eval x = u) {w' : World}
    (hrun : (Builtin.append_ #[38, 38] t #[v, u]).run Try.prog w = .ok v' w') (h : K (a.put o.dst v') w') :
    if Region.wanted o (yielded ops a.tmps) = true then Oper.wp Try.prog o a w K Q else E := by
  rw [if_pos hw]
  unfold Oper.wp execOp
  simp only [ho, hty, resolve, invoke, builtin, Sem.run_bind, Sem.run_pure, Result.andThen_ok, List.map_toArray, List.map_cons, List.map_nil, hs, hx, hrun]
  exact h
end Go.Proofs.Ytclephjnokbaoaa
