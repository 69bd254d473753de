/-
  Rows of bytes that a call makes: append and copy on them, in words of lists of numbers; conditions: as each states.
-/
import Derived.Test.YtklhmneapegfpaaGreatDoorShaMem
import Derived.Laws.CopyOwn
import Derived.Maps.AppendAt
import Derived.OwnWalk
namespace Go.Proofs.YtklhmneapegfpaaGreatDoor.Sha
open Go.RowKit
set_option linter.unusedVariables false

theorem info5 : (Tryz.prog.info? 5).map (fun i => (i.zero, i.size, i.bytes)) = some (some (.int .u8 0), 1, 1) := by kernel_rfl
def nums (zs : List Int) : List Value := zs.map (Value.int .u8)
theorem nums_one (zs : List Int) : ∀ u ∈ nums zs, u.oneCell' = true := by
  intro u hu
  obtain ⟨x, _, rfl⟩ := List.mem_map.1 hu
  rfl
theorem nums_len (zs : List Int) : (nums zs).length = zs.length := by simp [nums]
theorem nums_app (xs ys : List Int) : nums xs ++ nums ys = nums (xs ++ ys) := by simp [nums]
/-- v is a slice of n bytes, the numbers zs, in a row of the call's own (from block 'base' on), or nil. -/
def Own (w : World) (base : Nat) (v : Value) (n : Nat) (zs : List Int) : Prop := w.ownsRow base 5 1 v n (nums zs) ∧ Byt zs
theorem Own.len {w : World} {base : Nat} {v : Value} {n : Nat} {zs : List Int} (h : Own w base v n zs) : zs.length = n := by
  have := h.1.1
  rw [nums_len] at this; omega
theorem Own.form {w : World} {base : Nat} {v : Value} {n : Nat} {zs : List Int} (h : Own w base v n zs) : ∃ A c, v = .slice A n c ∧ n ≤ c ∧ Row w A n zs ∧ (∀ x, A = some x → base ≤ x.block ∧ x.block < w.heap.size) := by
  have hl := h.len
  rcases h.1.2 with ⟨rfl, rfl⟩ | ⟨g, cap, cur, rfl, hb, hg, hn, hm, hs, ht⟩
  · exact ⟨none, 0, rfl, Nat.le_refl _, ⟨hl, h.2, .inl rfl⟩, fun x hx => by cases hx⟩
  · have hlt : g < w.heap.size := (Array.getElem?_eq_some_iff.1 hg).1
    refine ⟨_, cap, rfl, hn, row_mk hl h.2 hlt (fun j hj => ?_), fun x hx => by cases hx; exact ⟨hb, hlt⟩⟩
    rw [cell_of_row w g (0 + j) cur 5 (0, 0) hg, Nat.zero_add]
    have e1 : cur[j]? = (cur.toList.take (n * 1))[j]? := by
      rw [List.getElem?_take, if_pos (by omega)]; simp
    rw [e1, ht]
    simp only [nums, List.getElem?_map, List.getD_eq_getElem?_getD]
    rw [List.getElem?_eq_getElem (by omega)]
    rfl
theorem own_nil (w : World) (base : Nat) : Own w base (.slice none 0 0) 0 [] := ⟨World.ownsRow_nil w base 5 1, fun n hn => by simp at hn⟩
theorem own_lit (w : World) (base : Nat) (zs : List Int) (hb : Byt zs) (n : Nat) (hn : zs.length = n) (hm : n ≤ maxLen) (hw : base ≤ w.heap.size) : Own (w.alloc (.cells (nums zs).toArray 5)) base (.slice (some ⟨w.heap.size, 0, none⟩) n n) n zs := by
  have := World.ownsRow_lit (base := base) (e := 5) (size := 1) w (nums zs).toArray n hw hm (by simp [nums_len, hn])
  simp only [] at this
  refine ⟨?_, hb⟩
  simpa using this
theorem Own.kept {w w' : World} {base : Nat} {v : Value} {n : Nat} {zs : List Int} (h : Own w base v n zs) (hb : Below w.heap.size w w') : Own w' base v n zs := by
  obtain ⟨⟨h1, h2⟩, h3⟩ := h
  refine ⟨⟨h1, ?_⟩, h3⟩
  rcases h2 with h2 | ⟨g, cap, cur, e1, e2, e3, e4⟩
  · exact .inl h2
  · exact .inr ⟨g, cap, cur, e1, e2, (hb.block g (Array.getElem?_eq_some_iff.1 e3).1).trans e3, e4⟩
theorem Own.lower {w : World} {base base' : Nat} {v : Value} {n : Nat} {zs : List Int} (h : Own w base v n zs) (hb : base' ≤ base) : Own w base' v n zs := by
  obtain ⟨⟨h1, h2⟩, h3⟩ := h
  refine ⟨⟨h1, ?_⟩, h3⟩
  rcases h2 with h2 | ⟨g, cap, cur, e1, e2, e3⟩
  · exact .inl h2
  · exact .inr ⟨g, cap, cur, e1, by omega, e3⟩
theorem Own.block {w : World} {base : Nat} {v : Value} {n : Nat} {zs : List Int} (h : Own w base v n zs) : ∀ k, v.ownBlock = some k → base ≤ k := fun k hk => (h.1.lt k hk).1

/-- A slice that reads as bytes, as append's and copy's laws want its cells. -/
theorem row_cells {w : World} {ad : Addr} {n : Nat} {zs : List Int} (h : Row w (some ad) n zs) : ∀ j u, (nums zs)[j]? = some u → w.cell? (ad.add j) = some u := by
  intro j u hu
  have hj : j < n := by
    have := (List.getElem?_eq_some_iff.1 hu).1
    rw [nums_len, h.1] at this; exact this
  obtain ⟨b, off, e, hw, hc⟩ := row_open h (by omega)
  cases e
  have hadd : (⟨b, off, none⟩ : Addr).add j = ⟨b, off + j, none⟩ := by unfold Addr.add; split <;> simp_all
  rw [hadd, hc j hj, ← hu]
  simp only [nums, List.getElem?_map, List.getD_eq_getElem?_getD]
  rw [List.getElem?_eq_getElem (by rw [h.1]; exact hj)]
  rfl

theorem runs_app (w : World) (base : Nat) (ty : TypeId) (v : Value) (n : Nat) (xs : List Int) (hown : Own w base v n xs) (A : Option Addr) (m c : Nat) (ys : List Int) (hr : Row w A m ys) (hc : A = none → m = 0)
    (h63 : n + m ≤ 1000000) (hbase : base ≤ w.heap.size) :
    ∃ v' w', (Builtin.append_ #[34, 34] ty #[v, .slice A m c]).run Tryz.prog w = .ok v' w' ∧ Own w' base v' (n + m) (xs ++ ys) ∧ w.grownBy w' v.ownBlock := by
  obtain ⟨i, hi, hz0, hz1, hz2⟩ := info_parts info5
  cases A with
  | none =>
    obtain rfl := hc rfl
    obtain rfl : ys = [] := List.eq_nil_of_length_eq_zero hr.1
    refine ⟨v, w, ?_, by simpa using hown, ⟨rfl, rfl, rfl, Nat.le_refl _, fun _ _ _ => rfl⟩⟩
    rcases hown.1.2 with ⟨rfl, rfl⟩ | ⟨g, cap, cur, rfl, _, _, hnc, _⟩
    · simp [Builtin.append_, run_underlying Tryz.underlying34, sizeOf, typeInfo, hi, Builtin.lenOf, Builtin.firstCells]
    · simp [Builtin.append_, run_underlying Tryz.underlying34, sizeOf, typeInfo, hi, Builtin.lenOf, Builtin.firstCells, hnc, storeCells]
  | some ad =>
    obtain ⟨v', w', h1, h2, h3, _⟩ := run_append_own_at (P := Tryz.prog) w base 34 ty 5 i (.int .u8 0) 1 1 Tryz.underlying34 hi hz0 hz1 hz2 rfl (by decide) v n (nums xs) hown.1 ad m c (nums ys) (by rw [nums_len, hr.1]; omega) (row_cells hr) (nums_one ys) (by unfold maxLen; omega) (by omega) hbase
    exact ⟨v', w', h1, ⟨by rw [← nums_app]; exact h2, byt_app hown.2 hr.2.1⟩, h3⟩

/-- out = append(out, xs...) -/
theorem wpList_app {w : World} {ops : Array Oper} {rest : List Oper} {o : Oper} {a : Act} {Q : Exit → Act → World → Prop} (hgd : o.guard = none) (s x : Operand)
    (ho : o.op = .call { callee := .builtin .append, args := #[s, x], argTypes := #[34, 34] })
    (base : Nat) (v : Value) (n : Nat) (xs : List Int) (hs : a.eval s = v) (hown : Own w base v n xs) (A : Option Addr) (m c : Nat) (ys : List Int) (hx : a.eval x = .slice A m c) (hr : Row w A m ys) (hc : A = none → m = 0)
    (h63 : n + m ≤ 1000000) (hbase : base ≤ w.heap.size)
    (h : ∀ v' w', Own w' base v' (n + m) (xs ++ ys) → w.grownBy w' v.ownBlock → wpList Tryz.prog ops Q rest (a.put o.dst v') w') : wpList Tryz.prog ops Q (o :: rest) a w := by
  refine wpList_plain hgd fun K hK => ?_
  obtain ⟨v', w', hrun, h2, h3⟩ := runs_app w base o.type v n xs hown A m c ys hr hc h63 hbase
  unfold Oper.wp execOp
  simp only [ho, resolve, invoke, builtin, Sem.run_bind, Sem.run_pure, Result.andThen_ok, List.map_toArray, List.map_cons, List.map_nil, hs, hx, hrun]
  exact hK _ _ (h v' w' h2 h3)

/-- copy(d, s), d a part of a block that is known whole. -/
theorem wpList_cp {w : World} {ops : Array Oper} {rest : List Oper} {o : Oper} {a : Act} {Q : Exit → Act → World → Prop} (hgd : o.guard = none) (d s : Operand)
    (ho : o.op = .call { callee := .builtin .copy, args := #[d, s], argTypes := #[34, 34] })
    (k : Nat) (g off dLen dCap : Nat) (hd : a.eval d = .slice (some ⟨g, off, none⟩) dLen dCap) (A : Option Addr) (m c : Nat) (hs : a.eval s = .slice A m c) (ys : List Int) (hr : Row w A m ys)
    (hk : Nat.min m dLen = k) (cur : Array Value) (t : TypeId) (hg : Has w g t cur) (hfit : off + k ≤ cur.size)
    (h : wpList Tryz.prog ops Q rest (a.put o.dst (goInt (k : Int))) (w.setRow g (cur.toList.take off ++ (nums (ys.take k) ++ cur.toList.drop (off + k))).toArray)) : wpList Tryz.prog ops Q (o :: rest) a w := by
  subst hk
  have hl : (ys.take (Nat.min m dLen)).length = Nat.min m dLen := by
    rw [List.length_take, hr.1]; exact Nat.min_eq_left (Nat.min_le_left _ _)
  by_cases h0 : Nat.min m dLen = 0
  · refine wpList_copy_nothing hgd d s 34 34 ho 5 Tryz.underlying34 (by kernel_rfl) (some ⟨g, off, none⟩) A dLen dCap m c hd hs h0 ?_
    rw [h0] at h
    have e : (cur.toList.take off ++ (nums (ys.take 0) ++ cur.toList.drop (off + 0))).toArray = cur := by simp [nums]
    rw [e, setRow_self w g cur t (0, 0) hg] at h
    exact h
  · have hm : Nat.min m dLen ≤ m := Nat.min_le_left _ _
    have hr2 := row_upto hr (Nat.min m dLen) hm
    obtain ⟨b, off2, rfl, _, _⟩ := row_open hr2 (by omega)
    refine wpList_copy_own hgd d s 34 34 ho 5 Tryz.underlying34 (by kernel_rfl) g off dLen dCap ⟨b, off2, none⟩ m c hd hs cur t hg (nums (ys.take (Nat.min m dLen))) (by rw [nums_len, hl]) (row_cells hr2) (by rw [nums_len, hl]; exact hfit) (nums_one _) ?_
    rw [nums_len, hl]
    exact h

/-- The same two as one step of a region that draws its order. -/
theorem step_cp {w : World} {ops : Array Oper} {o : Oper} {a : Act} {K : Act → World → Prop} {Q : Exit → Act → World → Prop} {E : Prop} (hgd : o.guard = none) (d s : Operand)
    (ho : o.op = .call { callee := .builtin .copy, args := #[d, s], argTypes := #[34, 34] })
    (k : Nat) (g off dLen dCap : Nat) (hd : a.eval d = .slice (some ⟨g, off, none⟩) dLen dCap) (A : Option Addr) (m c : Nat) (hs : a.eval s = .slice A m c) (ys : List Int) (hr : Row w A m ys)
    (hk : Nat.min m dLen = k) (cur : Array Value) (t : TypeId) (hg : Has w g t cur) (hfit : off + k ≤ cur.size)
    (h : K (a.put o.dst (goInt (k : Int))) (w.setRow g (cur.toList.take off ++ (nums (ys.take k) ++ cur.toList.drop (off + k))).toArray)) :
    if Region.wanted o (yielded ops a.tmps) = true then Oper.wp Tryz.prog o a w K Q else E := by
  have hw : Region.wanted o (yielded ops a.tmps) = true := by simp [Region.wanted, hgd]
  rw [if_pos hw]
  subst hk
  have hl : (ys.take (Nat.min m dLen)).length = Nat.min m dLen := by
    rw [List.length_take, hr.1]; exact Nat.min_eq_left (Nat.min_le_left _ _)
  by_cases h0 : Nat.min m dLen = 0
  · have hrun := run_copy_none (P := Tryz.prog) w 34 34 o.type 5 (some ⟨g, off, none⟩) A dLen dCap m c Tryz.underlying34 (by kernel_rfl) h0
    rw [h0] at h
    have e : (cur.toList.take off ++ (nums (ys.take 0) ++ cur.toList.drop (off + 0))).toArray = cur := by simp [nums]
    rw [e, setRow_self w g cur t (0, 0) hg] at h
    unfold Oper.wp
    simp [execOp, ho, resolve, invoke, builtin, hd, hs, hrun, Result.andThen]
    exact h
  · have hm : Nat.min m dLen ≤ m := Nat.min_le_left _ _
    have hr2 := row_upto hr (Nat.min m dLen) hm
    obtain ⟨b, off2, rfl, _, _⟩ := row_open hr2 (by omega)
    have hrun := run_copy_row (P := Tryz.prog) w 34 34 o.type 5 g off dLen dCap ⟨b, off2, none⟩ m c cur t (nums (ys.take (Nat.min m dLen))) Tryz.underlying34 (by kernel_rfl) hg (by rw [nums_len, hl]) (row_cells hr2) (by rw [nums_len, hl]; exact hfit) (nums_one _)
    rw [nums_len, hl] at hrun
    unfold Oper.wp
    simp [execOp, ho, resolve, invoke, builtin, hd, hs, hrun, Result.andThen]
    exact h
theorem step_app {w : World} {ops : Array Oper} {o : Oper} {a : Act} {K : Act → World → Prop} {Q : Exit → Act → World → Prop} {E : Prop} (hgd : o.guard = none) (s x : Operand)
    (ho : o.op = .call { callee := .builtin .append, args := #[s, x], argTypes := #[34, 34] })
    (base : Nat) (v : Value) (n : Nat) (xs : List Int) (hs : a.eval s = v) (hown : Own w base v n xs) (A : Option Addr) (m c : Nat) (ys : List Int) (hx : a.eval x = .slice A m c) (hr : Row w A m ys) (hc : A = none → m = 0)
    (h63 : n + m ≤ 1000000) (hbase : base ≤ w.heap.size)
    (h : ∀ v' w', Own w' base v' (n + m) (xs ++ ys) → w.grownBy w' v.ownBlock → K (a.put o.dst v') w') :
    if Region.wanted o (yielded ops a.tmps) = true then Oper.wp Tryz.prog o a w K Q else E := by
  have hw : Region.wanted o (yielded ops a.tmps) = true := by simp [Region.wanted, hgd]
  rw [if_pos hw]
  obtain ⟨v', w', hrun, h2, h3⟩ := runs_app w base o.type v n xs hown A m c ys hr hc h63 hbase
  unfold Oper.wp execOp
  simp only [ho, resolve, invoke, builtin, Sem.run_bind, Sem.run_pure, Result.andThen_ok, List.map_toArray, List.map_cons, List.map_nil, hs, hx, hrun]
  exact h v' w' h2 h3
end Go.Proofs.YtklhmneapegfpaaGreatDoor.Sha
