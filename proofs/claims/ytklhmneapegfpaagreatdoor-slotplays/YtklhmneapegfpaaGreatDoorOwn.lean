/-
  Words on memory: a block that is known whole, a row of bytes, a row that a call made, append on it; conditions: as each states.
-/
import Derived.Test.YtklhmneapegfpaaGreatDoorRows
import Derived.Test.YtklhmneapegfpaaGreatDoorPlain
import Derived.WalkKit
import Derived.WalkSmall
import Derived.Lib.Hide
import Derived.LoopTactic
import Derived.Laws.Rows
import Derived.Below
import Derived.Deep.Draws
import Derived.Laws.CopyOwn
import Derived.Maps.AppendAt
import Derived.OwnWalk
import Derived.OpenShut
import Derived.Lib.SlBytesConst
namespace Go.Proofs.YtklhmneapegfpaaGreatDoor
open Go.RowKit
set_option linter.unusedVariables false
set_option linter.unusedSimpArgs false

theorem ret_int {k : IntKind} {a b : Int} (h : a = b) : Ending.returned (.int k a) = .returned (.int k b) := by rw [h]
theorem ret_bool {a b : Bool} (h : a = b) : Ending.returned (.bool a) = .returned (.bool b) := by rw [h]
/-- A slice of n bytes that reads as the numbers zs (nil, or empty: whatever its address). -/
def Row (w : World) (a : Option Addr) (n : Nat) (zs : List Int) : Prop :=
  zs.length = n ∧ Byt zs ∧ (n = 0 ∨ ∃ b off, a = some ⟨b, off, none⟩ ∧ b < w.heap.size ∧ ∀ j, j < n → w.cell? ⟨b, off + j, none⟩ = some (.int .u8 (zs.getD j 0)))

/-- Block g is just these cells, none of them frozen. -/
def Has (w : World) (g : Nat) (t : TypeId) (cs : Array Value) : Prop := w.heap[g]? = some (.cells cs t (0, 0))
theorem Has.size {w : World} {g : Nat} {t : TypeId} {cs : Array Value} (h : Has w g t cs) : g < w.heap.size := by
  unfold Has at h
  exact (Array.getElem?_eq_some_iff.1 h).1
theorem Has.at {w : World} {g : Nat} {t : TypeId} {cs : Array Value} (h : Has w g t cs) (i : Nat) : w.cell? ⟨g, i, none⟩ = cs[i]? := cell_of_row w g i cs t (0, 0) h
theorem Has.soft {w : World} {g : Nat} {t : TypeId} {cs : Array Value} (h : Has w g t cs) (i : Nat) : w.frozen? ⟨g, i, none⟩ = false := frozen_of_row w g i cs t h
theorem has_new (w : World) (t : TypeId) (cs : Array Value) : Has (w.alloc (.cells cs t)) w.heap.size t cs := heap_alloc_new w _
theorem Has.more {w : World} {g : Nat} {t : TypeId} {cs : Array Value} (h : Has w g t cs) (o : Obj) : Has (w.alloc o) g t cs := (Below.heap_alloc w o g h.size).trans h
theorem Has.put {w : World} {g : Nat} {t : TypeId} {cs : Array Value} (h : Has w g t cs) (i : Nat) (v : Value) : Has (w.setCell ⟨g, i, none⟩ v) g t (cs.setIfInBounds i v) := heap_setCell_same w g i cs t v h
theorem Has.by {w : World} {g : Nat} {t : TypeId} {cs : Array Value} (h : Has w g t cs) {a : Addr} (hne : g ≠ a.block) (v : Value) : Has (w.setCell a v) g t cs := (heap_setCell_other w a g v hne).trans h
theorem Has.below {w w' : World} {g B : Nat} {t : TypeId} {cs : Array Value} (h : Has w g t cs) (hb : Below B w w') (hg : g < B) : Has w' g t cs := (hb.block g hg).trans h
theorem Has.kept {w w' : World} {g : Nat} {t : TypeId} {cs : Array Value} (h : Has w g t cs) (hb : Below w.heap.size w w') : Has w' g t cs := h.below hb h.size

theorem row_lt {w : World} {a : Option Addr} {n : Nat} {zs : List Int} {B : Nat} {w' : World} (h : Row w a n zs) (hB : w.heap.size ≤ B) (hb : Below B w w') : Row w' a n zs := by
  obtain ⟨h1, h2, h3⟩ := h
  refine ⟨h1, h2, ?_⟩
  rcases h3 with h0 | ⟨b, off, ha, hbw, hc⟩
  · exact .inl h0
  · exact .inr ⟨b, off, ha, Nat.lt_of_lt_of_le hbw hb.size, fun j hj => (hb.cell (p := ⟨b, off + j, none⟩) (Nat.lt_of_lt_of_le hbw hB)).trans (hc j hj)⟩
theorem row_below {w w' : World} {a : Option Addr} {n : Nat} {zs : List Int} (hb : Below w.heap.size w w') (h : Row w a n zs) : Row w' a n zs := row_lt h (Nat.le_refl _) hb
/-- A row of n bytes, n above 0: its address and its cells. -/
theorem row_open {w : World} {a : Option Addr} {n : Nat} {zs : List Int} (h : Row w a n zs) (hn : 0 < n) : ∃ b off, a = some ⟨b, off, none⟩ ∧ b < w.heap.size ∧ ∀ j, j < n → w.cell? ⟨b, off + j, none⟩ = some (.int .u8 (zs.getD j 0)) := by
  rcases h.2.2 with h0 | h1
  · omega
  · exact h1
theorem row_mk {w : World} {b off n : Nat} {zs : List Int} (hl : zs.length = n) (hb : Byt zs) (hw : b < w.heap.size) (hc : ∀ j, j < n → w.cell? ⟨b, off + j, none⟩ = some (.int .u8 (zs.getD j 0))) : Row w (some ⟨b, off, none⟩) n zs := ⟨hl, hb, .inr ⟨b, off, rfl, hw, hc⟩⟩
theorem row_from {w : World} {b off n : Nat} {zs : List Int} (h : Row w (some ⟨b, off, none⟩) n zs) (k : Nat) (hk : k < n) : Row w (some ⟨b, off + k, none⟩) (n - k) (zs.drop k) := by
  obtain ⟨b', off', e, hw, hc⟩ := row_open h (by omega)
  cases e
  exact row_mk (by rw [List.length_drop, h.1]) (byt_drop h.2.1 k) hw (fun j hj => by rw [getD_drop, show off + k + j = off + (k + j) by omega]; exact hc (k + j) (by omega))
theorem row_upto {w : World} {a : Option Addr} {n : Nat} {zs : List Int} (h : Row w a n zs) (k : Nat) (hk : k ≤ n) : Row w a k (zs.take k) := by
  refine ⟨by rw [List.length_take, h.1]; omega, byt_take h.2.1 k, ?_⟩
  by_cases h0 : k = 0
  · exact .inl h0
  · obtain ⟨b, off, rfl, hw, hc⟩ := row_open h (by omega)
    exact .inr ⟨b, off, rfl, hw, fun j hj => by rw [getD_take _ _ _ hj]; exact hc j (by omega)⟩

theorem info5 : (Tryz.prog.info? 5).map (fun i => (i.zero, i.size, i.bytes)) = some (some (.int .u8 0), 1, 1) := by kernel_rfl
def nums (zs : List Int) : List Value := zs.map (Value.int .u8)
theorem nums_one (zs : List Int) : ∀ u ∈ nums zs, u.oneCell' = true := by
  intro u hu
  obtain ⟨x, _, rfl⟩ := List.mem_map.1 hu
  rfl
theorem nums_len (zs : List Int) : (nums zs).length = zs.length := by simp [nums]
theorem nums_app (xs ys : List Int) : nums xs ++ nums ys = nums (xs ++ ys) := by simp [nums]
/-- v is a slice of n bytes, the numbers zs, in a row of the call's own (from block 'base' on), or nil. -/
def Own (w : World) (base : Nat) (v : Value) (n : Nat) (zs : List Int) : Prop := w.ownsRow base 5 1 v n (nums zs) ∧ Byt zs
theorem Own.len {w : World} {base : Nat} {v : Value} {n : Nat} {zs : List Int} (h : Own w base v n zs) : zs.length = n := by
  have := h.1.1
  rw [nums_len] at this; omega
theorem Own.form {w : World} {base : Nat} {v : Value} {n : Nat} {zs : List Int} (h : Own w base v n zs) : ∃ A c, v = .slice A n c ∧ n ≤ c ∧ Row w A n zs ∧ (∀ x, A = some x → base ≤ x.block ∧ x.block < w.heap.size) := by
  have hl := h.len
  rcases h.1.2 with ⟨rfl, rfl⟩ | ⟨g, cap, cur, rfl, hb, hg, hn, hm, hs, ht⟩
  · exact ⟨none, 0, rfl, Nat.le_refl _, ⟨hl, h.2, .inl rfl⟩, fun x hx => by cases hx⟩
  · have hlt : g < w.heap.size := (Array.getElem?_eq_some_iff.1 hg).1
    refine ⟨_, cap, rfl, hn, row_mk hl h.2 hlt (fun j hj => ?_), fun x hx => by cases hx; exact ⟨hb, hlt⟩⟩
    rw [cell_of_row w g (0 + j) cur 5 (0, 0) hg, Nat.zero_add]
    have e1 : cur[j]? = (cur.toList.take (n * 1))[j]? := by
      rw [List.getElem?_take, if_pos (by omega)]; simp
    rw [e1, ht]
    simp only [nums, List.getElem?_map, List.getD_eq_getElem?_getD]
    rw [List.getElem?_eq_getElem (by omega)]
    rfl
theorem own_nil (w : World) (base : Nat) : Own w base (.slice none 0 0) 0 [] := ⟨World.ownsRow_nil w base 5 1, fun n hn => by simp at hn⟩
theorem own_lit (w : World) (base : Nat) (zs : List Int) (hb : Byt zs) (n : Nat) (hn : zs.length = n) (hm : n ≤ maxLen) (hw : base ≤ w.heap.size) : Own (w.alloc (.cells (nums zs).toArray 5)) base (.slice (some ⟨w.heap.size, 0, none⟩) n n) n zs := by
  have := World.ownsRow_lit (base := base) (e := 5) (size := 1) w (nums zs).toArray n hw hm (by simp [nums_len, hn])
  simp only [] at this
  refine ⟨?_, hb⟩
  simpa using this
theorem Own.kept {w w' : World} {base : Nat} {v : Value} {n : Nat} {zs : List Int} (h : Own w base v n zs) (hb : Below w.heap.size w w') : Own w' base v n zs := by
  obtain ⟨⟨h1, h2⟩, h3⟩ := h
  refine ⟨⟨h1, ?_⟩, h3⟩
  rcases h2 with h2 | ⟨g, cap, cur, e1, e2, e3, e4⟩
  · exact .inl h2
  · exact .inr ⟨g, cap, cur, e1, e2, (hb.block g (Array.getElem?_eq_some_iff.1 e3).1).trans e3, e4⟩
theorem Own.lower {w : World} {base base' : Nat} {v : Value} {n : Nat} {zs : List Int} (h : Own w base v n zs) (hb : base' ≤ base) : Own w base' v n zs := by
  obtain ⟨⟨h1, h2⟩, h3⟩ := h
  refine ⟨⟨h1, ?_⟩, h3⟩
  rcases h2 with h2 | ⟨g, cap, cur, e1, e2, e3⟩
  · exact .inl h2
  · exact .inr ⟨g, cap, cur, e1, by omega, e3⟩
theorem Own.block {w : World} {base : Nat} {v : Value} {n : Nat} {zs : List Int} (h : Own w base v n zs) : ∀ k, v.ownBlock = some k → base ≤ k := fun k hk => (h.1.lt k hk).1

/-- A slice that reads as bytes, as append's and copy's laws want its cells. -/
theorem row_cells {w : World} {ad : Addr} {n : Nat} {zs : List Int} (h : Row w (some ad) n zs) : ∀ j u, (nums zs)[j]? = some u → w.cell? (ad.add j) = some u := by
  intro j u hu
  have hj : j < n := by
    have := (List.getElem?_eq_some_iff.1 hu).1
    rw [nums_len, h.1] at this; exact this
  obtain ⟨b, off, e, hw, hc⟩ := row_open h (by omega)
  cases e
  have hadd : (⟨b, off, none⟩ : Addr).add j = ⟨b, off + j, none⟩ := by unfold Addr.add; split <;> simp_all
  rw [hadd, hc j hj, ← hu]
  simp only [nums, List.getElem?_map, List.getD_eq_getElem?_getD]
  rw [List.getElem?_eq_getElem (by rw [h.1]; exact hj)]
  rfl

theorem runs_app (w : World) (base : Nat) (ty : TypeId) (v : Value) (n : Nat) (xs : List Int) (hown : Own w base v n xs) (A : Option Addr) (m c : Nat) (ys : List Int) (hr : Row w A m ys) (hc : A = none → m = 0)
    (h63 : n + m ≤ 1000000) (hbase : base ≤ w.heap.size) :
    ∃ v' w', (Builtin.append_ #[34, 34] ty #[v, .slice A m c]).run Tryz.prog w = .ok v' w' ∧ Own w' base v' (n + m) (xs ++ ys) ∧ w.grownBy w' v.ownBlock := by
  obtain ⟨i, hi, hz0, hz1, hz2⟩ := info_parts info5
  cases A with
  | none =>
    obtain rfl := hc rfl
    obtain rfl : ys = [] := List.eq_nil_of_length_eq_zero hr.1
    refine ⟨v, w, ?_, by simpa using hown, ⟨rfl, rfl, rfl, Nat.le_refl _, fun _ _ _ => rfl⟩⟩
    rcases hown.1.2 with ⟨rfl, rfl⟩ | ⟨g, cap, cur, rfl, _, _, hnc, _⟩
    · simp [Builtin.append_, run_underlying Tryz.underlying34, sizeOf, typeInfo, hi, Builtin.lenOf, Builtin.firstCells]
    · simp [Builtin.append_, run_underlying Tryz.underlying34, sizeOf, typeInfo, hi, Builtin.lenOf, Builtin.firstCells, hnc, storeCells]
  | some ad =>
    obtain ⟨v', w', h1, h2, h3, _⟩ := run_append_own_at (P := Tryz.prog) w base 34 ty 5 i (.int .u8 0) 1 1 Tryz.underlying34 hi hz0 hz1 hz2 rfl (by decide) v n (nums xs) hown.1 ad m c (nums ys) (by rw [nums_len, hr.1]; omega) (row_cells hr) (nums_one ys) (by unfold maxLen; omega) (by omega) hbase
    exact ⟨v', w', h1, ⟨by rw [← nums_app]; exact h2, byt_app hown.2 hr.2.1⟩, h3⟩

/-- out = append(out, xs...) -/
theorem wpList_app {w : World} {ops : Array Oper} {rest : List Oper} {o : Oper} {a : Act} {Q : Exit → Act → World → Prop} (hgd : o.guard = none) (s x : Operand)
    (ho : o.op = .call { callee := .builtin .append, args := #[s, x], argTypes := #[34, 34] })
    (base : Nat) (v : Value) (n : Nat) (xs : List Int) (hs : a.eval s = v) (hown : Own w base v n xs) (A : Option Addr) (m c : Nat) (ys : List Int) (hx : a.eval x = .slice A m c) (hr : Row w A m ys) (hc : A = none → m = 0)
    (h63 : n + m ≤ 1000000) (hbase : base ≤ w.heap.size)
    (h : ∀ v' w', Own w' base v' (n + m) (xs ++ ys) → w.grownBy w' v.ownBlock → wpList Tryz.prog ops Q rest (a.put o.dst v') w') : wpList Tryz.prog ops Q (o :: rest) a w := by
  refine wpList_plain hgd fun K hK => ?_
  obtain ⟨v', w', hrun, h2, h3⟩ := runs_app w base o.type v n xs hown A m c ys hr hc h63 hbase
  unfold Oper.wp execOp
  simp only [ho, resolve, invoke, builtin, Sem.run_bind, Sem.run_pure, Result.andThen_ok, List.map_toArray, List.map_cons, List.map_nil, hs, hx, hrun]
  exact hK _ _ (h v' w' h2 h3)

theorem row_none {w : World} {A : Option Addr} {n : Nat} {zs : List Int} (h : Row w A n zs) : A = none → n = 0 := by
  rintro rfl
  rcases h.2.2 with h0 | ⟨_, _, e, _⟩
  · exact h0
  · cases e
theorem below_own {B base : Nat} {w0 w w' : World} {v : Value} {n : Nat} {zs : List Int} (h : Below B w0 w) (ho : Own w base v n zs) (hg : w.grownBy w' v.ownBlock) (hB : B ≤ base) (hs : B ≤ w.heap.size) : Below B w0 w' :=
  h.grown hg hs (fun k hk => Nat.le_trans hB (ho.block k hk))
/-- A byte of a row anew. -/
theorem set_row {w : World} {g n K : Nat} {cur : Array Value} {xs : List Int} (hG : Has w g 5 cur) (hct : cur.toList.take n = nums xs) (hxl : xs.length = n) (hK : K < n) (hb : Byt xs) (y : Int) (hy : 0 ≤ y ∧ y ≤ 255) :
    Row (w.setCell ⟨g, K, none⟩ (.int .u8 y)) (some ⟨g, 0, none⟩) n (xs.set K y) := by
  have hput := hG.put K (.int .u8 y)
  refine row_mk (by rw [List.length_set, hxl]) ?_ hput.size (fun j hj => ?_)
  · intro m hm
    rcases List.mem_or_eq_of_mem_set hm with h | rfl
    · exact hb m h
    · exact hy
  · have hcs : n ≤ cur.size := by
      have := congrArg List.length hct
      rw [List.length_take, nums_len, hxl, Array.length_toList] at this
      omega
    rw [hput.at, Nat.zero_add, Array.getElem?_setIfInBounds]
    by_cases e : K = j
    · subst e
      rw [if_pos rfl, if_pos (by omega), List.getD_eq_getElem?_getD, List.getElem?_set_self (by omega)]
      rfl
    · rw [if_neg e]
      have e1 : cur[j]? = (cur.toList.take n)[j]? := by rw [List.getElem?_take, if_pos hj]; simp
      rw [e1, hct, List.getD_eq_getElem?_getD, List.getElem?_set_ne e]
      simp only [nums, List.getElem?_map]
      rw [List.getElem?_eq_getElem (by omega)]
      rfl
/-- A slice of bytes that came in. -/
theorem row_of {w : World} {a : Option Addr} {len cap : Nat} {zs : List Int}
    (h : (a = none ∧ len = 0 ∧ cap = 0 ∧ zs = []) ∨ ∃ x, a = some x ∧ len ≤ cap ∧ cap ≤ maxLen ∧ zs.length = cap ∧ (∀ i, i < zs.length → w.cell? (x.add i) = some (.int .u8 (zs.getD i 0))) ∧ ∀ n ∈ zs, (Lit.int .u8 n).wf = true) : Row w a len (zs.take len) := by
  rcases h with ⟨rfl, rfl, rfl, rfl⟩ | ⟨x, rfl, hlc, hm, hz, hc, hwf⟩
  · exact ⟨rfl, fun n hn => by simp at hn, .inl rfl⟩
  · refine ⟨by simp; omega, fun n hn => bounds_u8 (hwf n (List.mem_of_mem_take hn)), ?_⟩
    by_cases h0 : len = 0
    · exact .inl h0
    · obtain ⟨b, off, rfl, hcell⟩ := ints_at hc (by omega)
      refine .inr ⟨b, off, rfl, ?_, fun j hj => ?_⟩
      · have := hcell 0 (by omega)
        exact World.block_lt_of_cell? _ _ this
      · rw [hcell j (by omega)]
        simp [List.getD_eq_getElem?_getD, hj]
theorem row_nil (w : World) : Row w none 0 [] := ⟨rfl, fun n hn => by simp at hn, .inl rfl⟩
/-- Bytes that a call has laid. -/
theorem row_text (w : World) (zs : List Int) (hb : Byt zs) (n : Nat) (hn : zs.length = n) (fr : Nat × Nat) : Row (w.alloc (.cells (nums zs).toArray 5 fr)) (some ⟨w.heap.size, 0, none⟩) n zs := by
  refine row_mk hn hb (by simp) (fun j hj => ?_)
  rw [cell_of_row _ w.heap.size (0 + j) (nums zs).toArray 5 fr (heap_alloc_new w _), Nat.zero_add]
  simp only [nums, List.getElem?_toArray, List.getElem?_map, List.getD_eq_getElem?_getD]
  rw [List.getElem?_eq_getElem (by omega)]
  rfl
/-- copy(d, s), d a part of a block that is known whole. -/
theorem wpList_cp {w : World} {ops : Array Oper} {rest : List Oper} {o : Oper} {a : Act} {Q : Exit → Act → World → Prop} (hgd : o.guard = none) (d s : Operand)
    (ho : o.op = .call { callee := .builtin .copy, args := #[d, s], argTypes := #[34, 34] })
    (k : Nat) (g off dLen dCap : Nat) (hd : a.eval d = .slice (some ⟨g, off, none⟩) dLen dCap) (A : Option Addr) (m c : Nat) (hs : a.eval s = .slice A m c) (ys : List Int) (hr : Row w A m ys)
    (hk : Nat.min m dLen = k) (cur : Array Value) (t : TypeId) (hg : Has w g t cur) (hfit : off + k ≤ cur.size)
    (h : wpList Tryz.prog ops Q rest (a.put o.dst (goInt (k : Int))) (w.setRow g (cur.toList.take off ++ (nums (ys.take k) ++ cur.toList.drop (off + k))).toArray)) : wpList Tryz.prog ops Q (o :: rest) a w := by
  subst hk
  have hl : (ys.take (Nat.min m dLen)).length = Nat.min m dLen := by
    rw [List.length_take, hr.1]; exact Nat.min_eq_left (Nat.min_le_left _ _)
  by_cases h0 : Nat.min m dLen = 0
  · refine wpList_copy_nothing hgd d s 34 34 ho 5 Tryz.underlying34 (by kernel_rfl) (some ⟨g, off, none⟩) A dLen dCap m c hd hs h0 ?_
    rw [h0] at h
    have e : (cur.toList.take off ++ (nums (ys.take 0) ++ cur.toList.drop (off + 0))).toArray = cur := by simp [nums]
    rw [e, setRow_self w g cur t (0, 0) hg] at h
    exact h
  · have hm : Nat.min m dLen ≤ m := Nat.min_le_left _ _
    have hr2 := row_upto hr (Nat.min m dLen) hm
    obtain ⟨b, off2, rfl, _, _⟩ := row_open hr2 (by omega)
    refine wpList_copy_own hgd d s 34 34 ho 5 Tryz.underlying34 (by kernel_rfl) g off dLen dCap ⟨b, off2, none⟩ m c hd hs cur t hg (nums (ys.take (Nat.min m dLen))) (by rw [nums_len, hl]) (row_cells hr2) (by rw [nums_len, hl]; exact hfit) (nums_one _) ?_
    rw [nums_len, hl]
    exact h

/-- The same as one step of a region that draws its order. -/
theorem step_cp {w : World} {ops : Array Oper} {o : Oper} {a : Act} {K : Act → World → Prop} {Q : Exit → Act → World → Prop} {E : Prop} (hgd : o.guard = none) (d s : Operand)
    (ho : o.op = .call { callee := .builtin .copy, args := #[d, s], argTypes := #[34, 34] })
    (k : Nat) (g off dLen dCap : Nat) (hd : a.eval d = .slice (some ⟨g, off, none⟩) dLen dCap) (A : Option Addr) (m c : Nat) (hs : a.eval s = .slice A m c) (ys : List Int) (hr : Row w A m ys)
    (hk : Nat.min m dLen = k) (cur : Array Value) (t : TypeId) (hg : Has w g t cur) (hfit : off + k ≤ cur.size)
    (h : K (a.put o.dst (goInt (k : Int))) (w.setRow g (cur.toList.take off ++ (nums (ys.take k) ++ cur.toList.drop (off + k))).toArray)) :
    if Region.wanted o (yielded ops a.tmps) = true then Oper.wp Tryz.prog o a w K Q else E := by
  have hw : Region.wanted o (yielded ops a.tmps) = true := by simp [Region.wanted, hgd]
  rw [if_pos hw]
  subst hk
  have hl : (ys.take (Nat.min m dLen)).length = Nat.min m dLen := by
    rw [List.length_take, hr.1]; exact Nat.min_eq_left (Nat.min_le_left _ _)
  by_cases h0 : Nat.min m dLen = 0
  · have hrun := run_copy_none (P := Tryz.prog) w 34 34 o.type 5 (some ⟨g, off, none⟩) A dLen dCap m c Tryz.underlying34 (by kernel_rfl) h0
    rw [h0] at h
    have e : (cur.toList.take off ++ (nums (ys.take 0) ++ cur.toList.drop (off + 0))).toArray = cur := by simp [nums]
    rw [e, setRow_self w g cur t (0, 0) hg] at h
    unfold Oper.wp
    simp [execOp, ho, resolve, invoke, builtin, hd, hs, hrun, Result.andThen]
    exact h
  · have hm : Nat.min m dLen ≤ m := Nat.min_le_left _ _
    have hr2 := row_upto hr (Nat.min m dLen) hm
    obtain ⟨b, off2, rfl, _, _⟩ := row_open hr2 (by omega)
    have hrun := run_copy_row (P := Tryz.prog) w 34 34 o.type 5 g off dLen dCap ⟨b, off2, none⟩ m c cur t (nums (ys.take (Nat.min m dLen))) Tryz.underlying34 (by kernel_rfl) hg (by rw [nums_len, hl]) (row_cells hr2) (by rw [nums_len, hl]; exact hfit) (nums_one _)
    rw [nums_len, hl] at hrun
    unfold Oper.wp
    simp [execOp, ho, resolve, invoke, builtin, hd, hs, hrun, Result.andThen]
    exact h
end Go.Proofs.YtklhmneapegfpaaGreatDoor
