/-
  A row made longer by bytes 0; two of what is kept that are the same, in a region that draws its order; conditions: as each states.
-/
import Derived.Test.YthkgbcchnneloaaLv
import Derived.Lib.AppendZerosOnto
namespace Go.Proofs.Ythkgbcchnneloaa
open Go.RowKit
set_option linter.unusedVariables false
set_option linter.unusedSimpArgs false

theorem zero_cells (k : Nat) : Builtin.zeroCells (Value.int .u8 0).cells k = (nums (List.replicate k 0)).toArray := by
  apply Array.ext
  · simp [Builtin.zeroCells, nums, Value.cells]
  · intro i h1 h2
    simp [Builtin.zeroCells, nums, Value.cells, Nat.mod_one]
theorem byt_zeros (k : Nat) : Byt (List.replicate k 0) := byt_rep k
/-- append(out, make([]byte, k)...) -/
theorem runs_zeros (w : World) (base : Nat) (ty : TypeId) (v : Value) (n : Nat) (xs : List Int) (hown : Own w base v n xs) (k : Nat) (h63 : n + k ≤ 1000000) (hbase : base ≤ w.heap.size) :
    ∃ v' w', (Builtin.append_ #[28, 3] ty #[v, .int .i64 (k : Int)]).run Try.prog w = .ok v' w' ∧ Own w' base v' (n + k) (xs ++ List.replicate k 0) ∧ w.grownBy w' v.ownBlock := by
  obtain ⟨i, hi, hz0, hz1, hz2⟩ := info_parts info5
  have hw : IntKind.i64.wrap (k : Int) = k := by rw [IntKind.wrap_i64]; omega
  have hneg : ¬ ((k : Int) < 0) := by omega
  have h48i : ¬ (281474976710656 < (k : Int)) := by omega
  have hlen := hown.len
  by_cases hk : k = 0
  · subst hk
    refine ⟨v, w, ?_, by simpa using hown, ⟨rfl, rfl, rfl, Nat.le_refl _, fun _ _ _ => rfl⟩⟩
    rcases hown.1.2 with ⟨rfl, rfl⟩ | ⟨g, cap, cur, rfl, _, _, hnc, _⟩
    · simp [Builtin.append_, run_underlying Try.underlying28, run_underlying Try.underlying3, sizeOf, typeInfo, hi, asInt, asIntOf, IntKind.wrap_i64]
    · simp [Builtin.append_, run_underlying Try.underlying28, run_underlying Try.underlying3, sizeOf, typeInfo, hi, asInt, asIntOf, IntKind.wrap_i64, hnc, storeCells]
  have hk0 : 0 < k := by omega
  rcases hown.1.2 with ⟨rfl, rfl⟩ | ⟨g, cap, cur, rfl, hbg, hg, hnc, hcm, hcs, htake⟩
  · obtain rfl : xs = [] := List.eq_nil_of_length_eq_zero (by omega)
    have hr := Lib.run_append_nil_zeros (P := Try.prog) w 28 3 ty 5 i (.int .u8 0) .i64 .i64 Try.underlying28 Try.underlying3 hi hz0 k hk0 (by omega) (by omega) (by rw [hz2]; omega)
    refine ⟨_, _, hr, ?_, ⟨rfl, rfl, rfl, by simp, fun j hj _ => Below.heap_alloc w.drew _ j hj⟩⟩
    have hge := grownCap_ge w k 0 5
    have hcm : grownCap w k 0 5 ≤ maxLen := grownCap_le_maxLen w k 0 5 (by unfold maxLen; omega)
    rw [zero_cells, zero_cells, Nat.zero_add, List.nil_append]
    refine ⟨⟨by simp [nums], .inr ⟨w.heap.size, _, _, rfl, hbase, heap_alloc_new w.drew _, hge, hcm, ?_, ?_⟩⟩, byt_zeros k⟩
    · simp [nums]; omega
    · simp [nums]
  · have hcs' : cur.size = cap := by simpa using hcs
    have ht' : cur.toList.take n = nums xs := by simpa using htake
    by_cases hroom : n + k ≤ cap
    · have hst := run_storeCells_at (P := Try.prog) g n 5 (nums (List.replicate k 0)) 0 cur w hg (by simp [nums]; omega) (fun u hu => nums_one _ u hu)
      simp only [Nat.add_zero] at hst
      obtain ⟨cs, hcs2⟩ : ∃ cs : Array Value, cs = (cur.toList.take n ++ nums (List.replicate k 0) ++ cur.toList.drop (n + (nums (List.replicate k 0)).length)).toArray := ⟨_, rfl⟩
      rw [← hcs2] at hst
      refine ⟨.slice (some ⟨g, 0, none⟩) (n + k) cap, w.setRow g cs, ?_, ⟨⟨by simp [nums]; omega, .inr ⟨g, cap, cs, rfl, hbg, setRow_heap w g cur cs 5 _ hg, hroom, hcm, ?_, ?_⟩⟩, byt_app hown.2 (byt_zeros k)⟩, ?_⟩
      · simp [Builtin.append_, run_underlying Try.underlying28, run_underlying Try.underlying3, sizeOf, typeInfo, hi, asInt, asIntOf, hw, hneg, hz0, hz1, hz2, h48i, hroom, hk, zeroValue, zero_cells, Addr.add_lit, hst]
      · rw [hcs2]; simp [nums]; omega
      · rw [hcs2, ht', nums_app, Nat.mul_one]
        have : (nums (xs ++ List.replicate k 0)).length = n + k := by rw [nums_len]; simp; omega
        rw [← this]
        exact List.take_left
      · exact ⟨rfl, rfl, rfl, by simp, fun q _ hq => setRow_other w g q _ (fun e => hq (by simp [Value.ownBlock, e]))⟩
    · have hold : (Builtin.firstCells i.size n (.slice (some ⟨g, 0, none⟩) n cap)).run Try.prog w.drew = .ok (nums xs).toArray w.drew :=
        run_firstCells_some w.drew i.size n ⟨g, 0, none⟩ n cap (nums xs) (by rw [nums_len, hz1]; omega) (hown.1.cells (g := g) rfl)
      have hr := Lib.run_append_grow_zeros (P := Try.prog) w 28 3 ty 5 i (.int .u8 0) .i64 .i64 Try.underlying28 Try.underlying3 hi hz0 (some ⟨g, 0, none⟩) n cap (nums xs) hold k hk0 (by omega) (by omega) (by omega) (by rw [hz2]; omega) (growslice_fits (by omega) (by rw [hz2]; omega))
      refine ⟨_, _, hr, ?_, ⟨rfl, rfl, rfl, by simp, fun j hj _ => Below.heap_alloc w.drew _ j hj⟩⟩
      have hge := grownCap_ge w (n + k) cap 5
      have hcm' : grownCap w (n + k) cap 5 ≤ maxLen := grownCap_le_maxLen w (n + k) cap 5 (by unfold maxLen; omega)
      rw [zero_cells, zero_cells]
      refine ⟨⟨by simp [nums]; omega, .inr ⟨w.heap.size, _, _, rfl, hbase, heap_alloc_new w.drew _, hge, hcm', ?_, ?_⟩⟩, byt_app hown.2 (byt_zeros k)⟩
      · simp [nums]; omega
      · have : (nums (xs ++ List.replicate k 0)).length = (n + k) * 1 := by rw [nums_len]; simp; omega
        simp only [Array.toList_append, List.append_assoc]
        rw [← List.append_assoc, nums_app, ← this]
        exact List.take_left
/-- append(out, make([]byte, k)...), as the walk meets it. -/
theorem wpList_zeros {w : World} {ops : Array Oper} {rest : List Oper} {o : Oper} {a : Act} {Q : Exit → Act → World → Prop} (hgd : o.guard = none) (s x : Operand)
    (ho : o.op = .call { callee := .builtin .append, args := #[s, x], argTypes := #[28, 3] })
    (base : Nat) (v : Value) (n : Nat) (xs : List Int) (hs : a.eval s = v) (hown : Own w base v n xs) (k : Nat) (hx : a.eval x = .int .i64 (k : Int))
    (h63 : n + k ≤ 1000000) (hbase : base ≤ w.heap.size)
    (h : ∀ v' w', Own w' base v' (n + k) (xs ++ List.replicate k 0) → w.grownBy w' v.ownBlock → wpList Try.prog ops Q rest (a.put o.dst v') w') : wpList Try.prog ops Q (o :: rest) a w := by
  refine wpList_plain hgd fun K hK => ?_
  obtain ⟨v', w', hrun, h2, h3⟩ := runs_zeros w base o.type v n xs hown k h63 hbase
  unfold Oper.wp execOp
  simp only [ho, resolve, invoke, builtin, Sem.run_bind, Sem.run_pure, Result.andThen_ok, List.map_toArray, List.map_cons, List.map_nil, hs, hx, hrun]
  exact hK _ _ (h v' w' h2 h3)
theorem yields_neq27 {ops : Array Oper} {S : World → Prop} {o : Oper} {a : Act} (hw : Region.wanted o (yielded ops a.tmps) = true) (x y : Operand) (ho : o.op = .binOp .neq 27 x y 27) (m : Mt) (hx : a.eval x = .agg m.cells) (hy : a.eval y = .agg m.cells) (hl : m.Ok) :
    YieldsIf Try.prog ops S o (.bool false) a :=
  Or.inl ⟨hw, fun W hW => by
    have h1 := run_eqGuard_agg (P := Try.prog) W .neq 27 x y m.cells m.cells (by kernel_rfl)
    have h2 := run_neq_struct (P := Try.prog) W 27 m.cells m.cells
    rw [same27 hl W] at h2
    unfold execOp
    simp only [ho, hx, hy, Sem.run_bind, h1, Result.andThen_ok]
    simp [h1, h2]⟩
/-- The rest of a region, under a condition that says more. -/
theorem wpAnyH_strong {P : Program} {md : Region.Mode} {ops : Array Oper} {Q : Exit → Act → World → Prop} {S S' : World → Prop} (hs : ∀ w, S' w → S w) :
    ∀ (fuel : Nat) (listed : Array Bool) (a : Act) (w : World), wpAnyH P md ops Q S' fuel listed a w → wpAnyH P md ops Q S fuel listed a w
  | 0, _, _, _, h => h
  | fuel + 1, _, _, _, h => ⟨h.1, fun i hi => wpOp_mono (fun a' w' h' => ⟨hs w' h'.1, wpAnyH_strong hs fuel _ a' w' h'.2⟩) (h.2 i hi)⟩
end Go.Proofs.Ythkgbcchnneloaa
