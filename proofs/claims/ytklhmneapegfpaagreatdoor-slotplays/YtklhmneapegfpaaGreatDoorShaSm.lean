/-
  A stream in memory: its cells, its making, what is filled of it; conditions: as each states.
-/
import Derived.Test.YtklhmneapegfpaaGreatDoorShaMake
namespace Go.Proofs.YtklhmneapegfpaaGreatDoor.Sha
open Go.RowKit
set_option linter.unusedVariables false
set_option linter.unusedSimpArgs false

/-- The cells of a stream that has begun: its words, its count, its rest. -/
def smCells (H : St) (n : Nat) (bf : List Int) : Array Value := (Value.bool true :: ((stCells H).toList ++ (Value.int .u64 (n : Int) :: nums bf))).toArray
theorem sm_size (H : St) (n : Nat) (bf : List Int) : (smCells H n bf).size = 10 + bf.length := by simp [smCells, stCells, nums]; omega
theorem sm_begun (H : St) (n : Nat) (bf : List Int) : (smCells H n bf)[0]? = some (.bool true) := by simp [smCells]
theorem sm_word (H : St) (n : Nat) (bf : List Int) : ∀ j, j < 8 → (smCells H n bf)[1 + j]? = some (.int .u32 (H.get j)) :=
  eight_cases (by simp [smCells, stCells]; rfl) (by simp [smCells, stCells]; rfl) (by simp [smCells, stCells]; rfl) (by simp [smCells, stCells]; rfl) (by simp [smCells, stCells]; rfl) (by simp [smCells, stCells]; rfl) (by simp [smCells, stCells]; rfl) (by simp [smCells, stCells]; rfl)
theorem sm_count (H : St) (n : Nat) (bf : List Int) : (smCells H n bf)[9]? = some (.int .u64 (n : Int)) := by simp [smCells, stCells]
theorem sm_rest (H : St) (n : Nat) (bf : List Int) (j : Nat) (hj : j < bf.length) : (smCells H n bf)[10 + j]? = some (.int .u8 (bf.getD j 0)) := by
  have e : 10 + j = j + 10 := by omega
  rw [e]
  simp [smCells, stCells, nums, List.getElem?_eq_getElem hj, List.getD_eq_getElem?_getD]
theorem sm_put (H : St) (n m : Nat) (bf : List Int) : (smCells H n bf).setIfInBounds 9 (.int .u64 (m : Int)) = smCells H m bf := by simp [smCells, stCells]
theorem sm_all (H : St) (n : Nat) (bf : List Int) : (smCells H n bf).all (·.oneCell') = true := by
  rw [Array.all_eq_true_iff_forall_mem]
  intro v hv
  simp only [smCells, List.mem_toArray, List.mem_cons, List.mem_append] at hv
  rcases hv with rfl | hv | rfl | hv
  · rfl
  · exact Array.all_eq_true_iff_forall_mem.1 (st_all H) v (by simpa using hv)
  · rfl
  · exact nums_one bf v hv
theorem size49 {H : St} {n : Nat} {bf : List Int} (h : bf.length = 64) : (Tryz.prog.info? 96).map (·.size) = some (smCells H n bf).size := by
  rw [sm_size, h]; kernel_rfl
/-- The words anew. -/
theorem sm_words (H K : St) (n : Nat) (bf : List Int) : ((smCells H n bf).toList.take 1 ++ (stCells K).toList ++ (smCells H n bf).toList.drop (1 + 8)).toArray = smCells K n bf := by simp [smCells, stCells]
/-- The first k bytes of the rest anew, from the i-th on. -/
theorem sm_bytes (H : St) (n : Nat) (bf ys : List Int) (i k : Nat) (hk : ys.length = k) (hf : i + k ≤ bf.length) :
    ((smCells H n bf).toList.take (10 + i) ++ (nums ys ++ (smCells H n bf).toList.drop (10 + i + k))).toArray = smCells H n (bf.take i ++ ys ++ bf.drop (i + k)) := by
  have e1 : (smCells H n bf).toList.take (10 + i) = Value.bool true :: ((stCells H).toList ++ (Value.int .u64 (n : Int) :: nums (bf.take i))) := by
    rw [show 10 + i = i + 10 by omega]
    simp [smCells, stCells, nums, List.map_take]
  have e2 : (smCells H n bf).toList.drop (10 + i + k) = nums (bf.drop (i + k)) := by
    rw [show 10 + i + k = (i + k) + 10 by omega]
    simp [smCells, stCells, nums, List.map_drop]
  rw [e1, e2]
  simp [smCells, nums]

theorem addr_add (g o j : Nat) : (⟨g, o, none⟩ : Addr).add j = ⟨g, o + j, none⟩ := by unfold Addr.add; split <;> simp_all
/-- The stream's words, loaded out of its block. -/
theorem wpList_load_words {w : World} {ops : Array Oper} {rest : List Oper} {o : Oper} {a : Act} {Q : Exit → Act → World → Prop} (hgd : o.guard = none) (x : Operand) (ho : o.op = .load 92 x)
    (g : Nat) (hx : a.eval x = .pointer (some ⟨g, 1, none⟩)) (H : St) (n : Nat) (bf : List Int) (hg : Has w g 96 (smCells H n bf))
    (h : wpList Tryz.prog ops Q rest (a.put o.dst (.agg (stCells H))) w) : wpList Tryz.prog ops Q (o :: rest) a w := by
  refine wpList_plain hgd fun K hK => ?_
  have hl : (loadCells ⟨g, 1, none⟩ 8).run Tryz.prog w = .ok (stCells H) w := by
    have := run_loadCells_list (P := Tryz.prog) w ⟨g, 1, none⟩ (stCells H).toList (fun j v hv => by
      have hj : j < 8 := (List.getElem?_eq_some_iff.1 hv).1
      rw [addr_add, hg.at, sm_word H n bf j hj, ← st_at H j hj, ← hv]; simp)
    simp only [Array.length_toList, Array.toArray_toList] at this
    exact this
  obtain ⟨i, hi, hsz⟩ := Option.map_eq_some_iff.1 size45
  have hagg : (isAgg 92).run Tryz.prog w = .ok true w := by unfold isAgg; rw [Sem.run_bind, run_underlying Tryz.underlying92 w]; rfl
  have hv : (loadVar 92 ⟨g, 1, none⟩).run Tryz.prog w = .ok (.agg (stCells H)) w := by
    simp [loadVar, Sem.run_bind, hagg, sizeOf, typeInfo, hi, hsz, hl]
  unfold Oper.wp execOp
  simp only [ho, hx, Instr.loadAt, Instr.sureAddr, Sem.run_bind, Sem.run_pure, Result.andThen_ok, hv]
  exact hK _ _ h
/-- Words stored into the stream's block. -/
theorem wpList_store_words {w : World} {ops : Array Oper} {rest : List Oper} {o : Oper} {a : Act} {Q : Exit → Act → World → Prop} (hgd : o.guard = none) (x y : Operand) (ho : o.op = .store 92 x y)
    (g : Nat) (K : St) (hx : a.eval x = .pointer (some ⟨g, 1, none⟩)) (hy : a.eval y = .agg (stCells K)) (H : St) (n : Nat) (bf : List Int) (hg : Has w g 96 (smCells H n bf))
    (h : wpList Tryz.prog ops Q rest (a.put o.dst undef) (w.setRow g (smCells K n bf))) : wpList Tryz.prog ops Q (o :: rest) a w := by
  refine wpList_plain hgd fun K' hK => ?_
  have hst := run_storeCells_at (P := Tryz.prog) g 1 96 (stCells K).toList 0 (smCells H n bf) w hg (by rw [sm_size]; simp [stCells]; omega) (fun v hv => Array.all_eq_true_iff_forall_mem.1 (st_all K) v (by simpa using hv))
  rw [show 1 + 0 + (stCells K).toList.length = 1 + 8 from rfl, show (1 + 0 : Nat) = 1 from rfl, sm_words] at hst
  obtain ⟨i, hi, hsz⟩ := Option.map_eq_some_iff.1 size45
  unfold Oper.wp execOp
  simp only [ho, hx, hy, Instr.storeAt, Instr.sureAddr, Sem.run_bind, Sem.run_pure, Result.andThen_ok]
  have hv : (storeVar 92 ⟨g, 1, none⟩ (.agg (stCells K))).run Tryz.prog w = .ok () (w.setRow g (smCells K n bf)) := by
    have h8 : (stCells K).size = 8 := rfl
    simp [storeVar, sizeOf, typeInfo, hi, hsz, Value.cells, h8, hst]
  rw [hv]
  exact hK _ _ h

theorem wpList_build_to {w : World} {ops : Array Oper} {rest : List Oper} {o : Oper} {a : Act} {Q : Exit → Act → World → Prop} (hg : o.guard = none) (t : TypeId) (parts : Array (Nat × Operand)) (ho : o.op = .build t parts)
    (cells : Array Value) (hb : Tryz.prog.built t (parts.map fun (i, x) => (i, a.eval x)).toList = some cells) (h : wpList Tryz.prog ops Q rest (a.put o.dst (.agg cells)) w) : wpList Tryz.prog ops Q (o :: rest) a w :=
  wpList_build hg t parts ho (by rw [hb]; rfl) (by rw [hb]; exact h)
def noBytes : List Int := List.replicate 64 0
/-- The cells of a stream that was only declared. -/
def zero49 : Array Value := (Value.bool false :: ((stCells zeroSt).toList ++ (Value.int .u64 0 :: nums noBytes))).toArray
theorem zero49_run : ∀ w : World, (zeroValue 96).run Tryz.prog w = .ok (.agg zero49) w :=
  (zero_of_info (P := Tryz.prog) (t := 96) (n := 74) (by kernel_rfl)).1
theorem zero49_size : zero49.size = 74 := by kernel_rfl
theorem built49 : Tryz.prog.built 96 [(0, .bool true), (1, .agg (stCells st0))] = some (smCells st0 0 noBytes) := by kernel_rfl
theorem no_len : noBytes.length = 64 := by simp [noBytes]
theorem no_byt : Byt noBytes := by
  intro n hn
  simp only [noBytes, List.mem_replicate] at hn
  omega
theorem old49 {H : St} {n : Nat} {bf : List Int} (h : bf.length = 64) : zero49.size = (smCells H n bf).size := by rw [zero49_size, sm_size, h]
set_option maxRecDepth 100000 in
theorem fresh_any (w : World) (ht : Tabs w) : Calls Tryz.prog 65 #[] w fun e w' => e = .returned (.agg (smCells st0 0 noBytes)) ∧ Below w.heap.size w w' := by
  obtain ⟨h0, _, c0, c1, c2, c3, c4, c5, c6, c7⟩ := ht
  have hz := zero49_run
  have l0 : 0 < w.heap.size := by omega
  have hn := has_new w 96 zero49
  have hb : Below w.heap.size w (w.alloc (.cells zero49 96)) := (Below.refl _ _).alloc (Nat.le_refl _) _
  go_enter Tryz.func65, Tryz.ntmps65
  go_wp2_with (first
    | (refine wpList_build_to rfl 96 _ rfl _ built49 ?_)
    | (refine wpList_store_row rfl 96 _ _ rfl w.heap.size (smCells st0 0 noBytes) rfl rfl 96 _ hn (size49 no_len) (old49 no_len) (sm_all _ _ _) ?_))
  exact bodyPost_ret (results_cell_row rfl _ _ w.heap.size 96 (smCells st0 0 noBytes) (0, 0) _ rfl (setRow_heap _ _ _ _ _ _ hn) Tryz.underlying96 rfl (size49 no_len)) rfl ⟨rfl, below_setRow hb (Nat.le_refl _) _⟩
theorem filled_any (b n : Nat) (H : St) (bf : List Int) (w : World) (hs : Has w b 96 (smCells H n bf)) : Calls Tryz.prog 81 #[.pointer (some ⟨b, 0, none⟩)] w fun e w' => e = .returned (.int .i64 ((n % 64 : Nat) : Int)) ∧ w = w' := by
  have c9 : w.cell? ⟨b, 9, none⟩ = some (.int .u64 (n : Int)) := (hs.at 9).trans (sm_count H n bf)
  go_enter Tryz.func81, Tryz.ntmps81
  go_wp2
  go_ret
  exact ⟨ret_int (by omega), rfl⟩
set_option maxRecDepth 100000 in
theorem now_any (b n : Nat) (H : St) (bf : List Int) (w : World) (hl : bf.length = 64) (hs : Has w b 96 (smCells H n bf)) :
    Calls Tryz.prog 83 #[.pointer (some ⟨b, 0, none⟩)] w fun e w' => e = .returned (.agg (smCells H n bf)) ∧ Below w.heap.size w w' := by
  have hz := zero49_run
  have hlt := hs.size
  have hn := has_new w 96 zero49
  have hs2 := hs.more (.cells zero49 96)
  have hb : Below w.heap.size w (w.alloc (.cells zero49 96)) := (Below.refl _ _).alloc (Nat.le_refl _) _
  have c0 : w.cell? ⟨b, 0, none⟩ = some (.bool true) := (hs.at 0).trans (sm_begun H n bf)
  go_enter Tryz.func83, Tryz.ntmps83
  go_wp2_with (first
    | (refine wpList_load_row rfl 96 _ rfl b rfl 96 _ (0, 0) _ hs2 Tryz.underlying96 rfl (size49 hl) ?_)
    | (refine wpList_store_row rfl 96 _ _ rfl w.heap.size (smCells H n bf) rfl rfl 96 _ hn (size49 hl) (old49 hl) (sm_all _ _ _) ?_))
  exact bodyPost_ret (results_cell_row rfl _ _ w.heap.size 96 (smCells H n bf) (0, 0) _ rfl (setRow_heap _ _ _ _ _ _ hn) Tryz.underlying96 rfl (size49 hl)) rfl ⟨rfl, below_setRow hb (Nat.le_refl _) _⟩
/-- A new block that holds this stream. -/
def Made (H : St) (n : Nat) (bf : List Int) (w : World) (e : Ending) (w' : World) : Prop := ∃ b, e = .returned (.pointer (some ⟨b, 0, none⟩)) ∧ w.heap.size ≤ b ∧ Has w' b 96 (smCells H n bf) ∧ Below w.heap.size w w'
end Go.Proofs.YtklhmneapegfpaaGreatDoor.Sha
