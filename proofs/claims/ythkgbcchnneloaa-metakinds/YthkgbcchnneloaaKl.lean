/-
  Twelve of what may be kept, or not, in one row; how they are laid, one by one; which of them may be kept; conditions: none.
-/
import Derived.Test.YthkgbcchnneloaaLv
import Derived.Great.Walk
namespace Go.Proofs.Ythkgbcchnneloaa
open Go.RowKit
set_option linter.unusedVariables false
set_option linter.unusedSimpArgs false

def iB : Im := ⟨2, 321, List.replicate 32 0⟩
theorem iB_ok : iB.Ok := ⟨List.length_replicate, byt_rep _, by unfold I64 iB; simp, by unfold I64 iB; simp⟩
def rowC (L : List Mt) : Array Value := (L.flatMap Mt.list).toArray
def K0 : List Mt := List.replicate 12 mA
def n1 : Mt := { mA with act := 1 }
def K1 : List Mt := K0.set 1 n1
def n2 : Mt := { mA with com := iB }
def K2 : List Mt := K1.set 2 n2
def n3 : Mt := { mA with h1 := iB }
def K3 : List Mt := K2.set 3 n3
def n4 : Mt := { mA with phase := 1 }
def K4 : List Mt := K3.set 4 n4
def n5a : Mt := { mA with phase := 1 }
def K5 : List Mt := K4.set 5 n5a
def n5b : Mt := { n5a with com := iB }
def K6 : List Mt := K5.set 5 n5b
def n5 : Mt := { n5b with gott := 2 }
def K7 : List Mt := K6.set 5 n5
def K8 : List Mt := K7.set 6 n5
def n6 : Mt := { n5 with gott := 3 }
def K9 : List Mt := K8.set 6 n6
def K10 : List Mt := K9.set 7 n5
def n7 : Mt := { n5 with phase := 2 }
def K11 : List Mt := K10.set 7 n7
def K12 : List Mt := K11.set 8 n7
def n8 : Mt := { n7 with gott := 1 }
def K13 : List Mt := K12.set 8 n8
def n9a : Mt := { mA with phase := 3 }
def K14 : List Mt := K13.set 9 n9a
def n9b : Mt := { n9a with h1 := iB }
def K15 : List Mt := K14.set 9 n9b
def n9 : Mt := { n9b with trials := 2 }
def K16 : List Mt := K15.set 9 n9
def K17 : List Mt := K16.set 10 n9
def n10 : Mt := { n9 with h1 := zeroI }
def K18 : List Mt := K17.set 10 n10
def K19 : List Mt := K18.set 11 n5
def n11 : Mt := { n5 with h1 := iA }
def K20 : List Mt := K19.set 11 n11
set_option maxRecDepth 100000 in
theorem put_1 : ((rowC K0).toList.take 107 ++ [Value.int .i64 1] ++ (rowC K0).toList.drop (107 + [Value.int .i64 1].length)).toArray = rowC K1 := by kernel_rfl
set_option maxRecDepth 100000 in
theorem put_2 : ((rowC K1).toList.take 285 ++ (Im.list iB) ++ (rowC K1).toList.drop (285 + (Im.list iB).length)).toArray = rowC K2 := by kernel_rfl
set_option maxRecDepth 100000 in
theorem put_3 : ((rowC K2).toList.take 356 ++ (Im.list iB) ++ (rowC K2).toList.drop (356 + (Im.list iB).length)).toArray = rowC K3 := by kernel_rfl
set_option maxRecDepth 100000 in
theorem put_4 : ((rowC K3).toList.take 498 ++ [Value.int .i64 1] ++ (rowC K3).toList.drop (498 + [Value.int .i64 1].length)).toArray = rowC K4 := by kernel_rfl
set_option maxRecDepth 100000 in
theorem put_5 : ((rowC K4).toList.take 605 ++ [Value.int .i64 1] ++ (rowC K4).toList.drop (605 + [Value.int .i64 1].length)).toArray = rowC K5 := by kernel_rfl
set_option maxRecDepth 100000 in
theorem put_6 : ((rowC K5).toList.take 606 ++ (Im.list iB) ++ (rowC K5).toList.drop (606 + (Im.list iB).length)).toArray = rowC K6 := by kernel_rfl
set_option maxRecDepth 100000 in
theorem put_7 : ((rowC K6).toList.take 640 ++ [Value.int .i64 2] ++ (rowC K6).toList.drop (640 + [Value.int .i64 2].length)).toArray = rowC K7 := by kernel_rfl
set_option maxRecDepth 100000 in
theorem put_8 : ((rowC K7).toList.take 642 ++ (Mt.list n5) ++ (rowC K7).toList.drop (642 + (Mt.list n5).length)).toArray = rowC K8 := by kernel_rfl
set_option maxRecDepth 100000 in
theorem put_9 : ((rowC K8).toList.take 747 ++ [Value.int .i64 3] ++ (rowC K8).toList.drop (747 + [Value.int .i64 3].length)).toArray = rowC K9 := by kernel_rfl
set_option maxRecDepth 100000 in
theorem put_10 : ((rowC K9).toList.take 749 ++ (Mt.list n5) ++ (rowC K9).toList.drop (749 + (Mt.list n5).length)).toArray = rowC K10 := by kernel_rfl
set_option maxRecDepth 100000 in
theorem put_11 : ((rowC K10).toList.take 819 ++ [Value.int .i64 2] ++ (rowC K10).toList.drop (819 + [Value.int .i64 2].length)).toArray = rowC K11 := by kernel_rfl
set_option maxRecDepth 100000 in
theorem put_12 : ((rowC K11).toList.take 856 ++ (Mt.list n7) ++ (rowC K11).toList.drop (856 + (Mt.list n7).length)).toArray = rowC K12 := by kernel_rfl
set_option maxRecDepth 100000 in
theorem put_13 : ((rowC K12).toList.take 961 ++ [Value.int .i64 1] ++ (rowC K12).toList.drop (961 + [Value.int .i64 1].length)).toArray = rowC K13 := by kernel_rfl
set_option maxRecDepth 100000 in
theorem put_14 : ((rowC K13).toList.take 1033 ++ [Value.int .i64 3] ++ (rowC K13).toList.drop (1033 + [Value.int .i64 3].length)).toArray = rowC K14 := by kernel_rfl
set_option maxRecDepth 100000 in
theorem put_15 : ((rowC K14).toList.take 998 ++ (Im.list iB) ++ (rowC K14).toList.drop (998 + (Im.list iB).length)).toArray = rowC K15 := by kernel_rfl
set_option maxRecDepth 100000 in
theorem put_16 : ((rowC K15).toList.take 1069 ++ [Value.int .i64 2] ++ (rowC K15).toList.drop (1069 + [Value.int .i64 2].length)).toArray = rowC K16 := by kernel_rfl
set_option maxRecDepth 100000 in
theorem put_17 : ((rowC K16).toList.take 1070 ++ (Mt.list n9) ++ (rowC K16).toList.drop (1070 + (Mt.list n9).length)).toArray = rowC K17 := by kernel_rfl
set_option maxRecDepth 100000 in
theorem put_18 : ((rowC K17).toList.take 1105 ++ (Im.list zeroI) ++ (rowC K17).toList.drop (1105 + (Im.list zeroI).length)).toArray = rowC K18 := by kernel_rfl
set_option maxRecDepth 100000 in
theorem put_19 : ((rowC K18).toList.take 1177 ++ (Mt.list n5) ++ (rowC K18).toList.drop (1177 + (Mt.list n5).length)).toArray = rowC K19 := by kernel_rfl
set_option maxRecDepth 100000 in
theorem put_20 : ((rowC K19).toList.take 1212 ++ (Im.list iA) ++ (rowC K19).toList.drop (1212 + (Im.list iA).length)).toArray = rowC K20 := by kernel_rfl
set_option maxRecDepth 100000 in
theorem row_0 : (rowC K0).size = 1284 := by kernel_rfl
set_option maxRecDepth 100000 in
theorem row_1 : (rowC K1).size = 1284 := by kernel_rfl
set_option maxRecDepth 100000 in
theorem row_2 : (rowC K2).size = 1284 := by kernel_rfl
set_option maxRecDepth 100000 in
theorem row_3 : (rowC K3).size = 1284 := by kernel_rfl
set_option maxRecDepth 100000 in
theorem row_4 : (rowC K4).size = 1284 := by kernel_rfl
set_option maxRecDepth 100000 in
theorem row_5 : (rowC K5).size = 1284 := by kernel_rfl
set_option maxRecDepth 100000 in
theorem row_6 : (rowC K6).size = 1284 := by kernel_rfl
set_option maxRecDepth 100000 in
theorem row_7 : (rowC K7).size = 1284 := by kernel_rfl
set_option maxRecDepth 100000 in
theorem row_8 : (rowC K8).size = 1284 := by kernel_rfl
set_option maxRecDepth 100000 in
theorem row_9 : (rowC K9).size = 1284 := by kernel_rfl
set_option maxRecDepth 100000 in
theorem row_10 : (rowC K10).size = 1284 := by kernel_rfl
set_option maxRecDepth 100000 in
theorem row_11 : (rowC K11).size = 1284 := by kernel_rfl
set_option maxRecDepth 100000 in
theorem row_12 : (rowC K12).size = 1284 := by kernel_rfl
set_option maxRecDepth 100000 in
theorem row_13 : (rowC K13).size = 1284 := by kernel_rfl
set_option maxRecDepth 100000 in
theorem row_14 : (rowC K14).size = 1284 := by kernel_rfl
set_option maxRecDepth 100000 in
theorem row_15 : (rowC K15).size = 1284 := by kernel_rfl
set_option maxRecDepth 100000 in
theorem row_16 : (rowC K16).size = 1284 := by kernel_rfl
set_option maxRecDepth 100000 in
theorem row_17 : (rowC K17).size = 1284 := by kernel_rfl
set_option maxRecDepth 100000 in
theorem row_18 : (rowC K18).size = 1284 := by kernel_rfl
set_option maxRecDepth 100000 in
theorem row_19 : (rowC K19).size = 1284 := by kernel_rfl
set_option maxRecDepth 100000 in
theorem row_20 : (rowC K20).size = 1284 := by kernel_rfl
theorem flat_at : ∀ (L : List Mt) (i j : Nat) (m : Mt) (v : Value), (∀ k ∈ L, k.list.length = 107) → L[i]? = some m → m.list[j]? = some v → (L.flatMap Mt.list)[i * 107 + j]? = some v
  | [], i, j, m, v, _, h, _ => by simp at h
  | k :: L, 0, j, m, v, hk, h, hj => by
    simp at h
    subst h
    rw [List.flatMap_cons, List.getElem?_append_left (by have := (List.getElem?_eq_some_iff.1 hj).1; omega)]
    simpa using hj
  | k :: L, i + 1, j, m, v, hk, h, hj => by
    have hl : k.list.length = 107 := hk k (by simp)
    rw [List.flatMap_cons, List.getElem?_append_right (by omega), hl, show (i + 1) * 107 + j - 107 = i * 107 + j by omega]
    exact flat_at L i j m v (fun x hx => hk x (by simp [hx])) (by simpa using h) hj
/-- The i-th one, loaded out of the row. -/
theorem ldK {w : World} {g i : Nat} {m : Mt} {L : List Mt} (hg : Has w g 27 (rowC L)) (hL : L.all (fun k => k.list.length == 107) = true) (h : L[i]? = some m) : (Instr.loadAt 27 (.pointer (some ⟨g, i * 107, none⟩))).run Try.prog w = .ok (.agg m.cells) w := by
  have hall : ∀ k ∈ L, k.list.length = 107 := fun k hk => by simpa using List.all_eq_true.1 hL k hk
  refine run_loadAt_mid w g (i * 107) 27 m.list _ (fun j v hv => ?_) Try.underlying27 rfl (by rw [hall m (List.mem_of_getElem? h)]; kernel_rfl)
  rw [hg.at]
  unfold rowC
  rw [List.getElem?_toArray]
  exact flat_at L i j m v hall h hv
def B12 : List Bool := [true, false, false, true, false, true, false, true, false, true, false, false]
def okMB (m : Mt) : Bool := [m.h0, m.h1, m.com].all (fun i => i.dig.length == 32 && i.dig.all (fun x => decide (0 ≤ x ∧ x ≤ 255)) && decide (-9223372036854775808 ≤ i.ver ∧ i.ver ≤ 9223372036854775807) && decide (-9223372036854775808 ≤ i.size ∧ i.size ≤ 9223372036854775807)) &&
  [m.act, m.least, m.phase, m.gott, m.trials].all (fun x => decide (-9223372036854775808 ≤ x ∧ x ≤ 9223372036854775807))
theorem okMB_ok {m : Mt} (h : okMB m = true) : m.Ok := by
  unfold okMB at h
  simp only [List.all_cons, List.all_nil, Bool.and_true, Bool.and_eq_true, beq_iff_eq, List.all_eq_true, decide_eq_true_eq] at h
  obtain ⟨⟨⟨⟨⟨a1, a2⟩, a3⟩, a4⟩, ⟨⟨⟨b1, b2⟩, b3⟩, b4⟩, ⟨⟨c1, c2⟩, c3⟩, c4⟩, d1, d2, d3, d4, d5⟩ := h
  exact ⟨⟨a1, a2, a3, a4⟩, ⟨b1, b2, b3, b4⟩, ⟨c1, c2, c3, c4⟩, d1, d2, d3, d4, d5⟩
set_option maxRecDepth 100000 in
theorem all12 : (List.range 12).all (fun i => match K20[i]?, B12[i]? with | some m, some b => (rightB m == b) && okMB m | _, _ => false) = true := by decide +kernel
theorem len12 : K20.all (fun k => k.list.length == 107) = true := by decide +kernel
theorem twelve {i : Nat} (hi : i < 12) : ∃ m b, K20[i]? = some m ∧ B12[i]? = some b ∧ m.Ok ∧ rightB m = b := by
  have h := List.all_eq_true.1 all12 i (List.mem_range.2 hi)
  obtain ⟨m, hm⟩ : ∃ m, K20[i]? = some m := ⟨_, List.getElem?_eq_getElem (l := K20) hi⟩
  obtain ⟨b, hb⟩ : ∃ b, B12[i]? = some b := ⟨_, List.getElem?_eq_getElem (l := B12) hi⟩
  rw [hm, hb] at h
  simp only [Bool.and_eq_true, beq_iff_eq] at h
  exact ⟨m, b, hm, hb, okMB_ok h.2, h.1⟩
set_option maxRecDepth 100000 in
theorem built12 : Try.prog.builtSlice 27 12 ((K0.map fun k => Value.agg k.cells).zipIdx.map fun x => (x.2, x.1)) = some (rowC K0) := by
  have hi : (Try.prog.info? 27).map (fun i => (i.zero, i.size)) = some (some (.agg zeroT.cells), 107) := by kernel_rfl
  unfold Program.builtSlice
  cases hie : Try.prog.info? 27 with
  | none => simp [hie] at hi
  | some ie =>
    simp only [hie, Option.map_some, Option.some.injEq, Prod.mk.injEq] at hi
    obtain ⟨hz, hs⟩ := hi
    simp only [hz, hs]
    rw [if_neg (by omega), Great.fill_whole (s := 107) (by omega) (K0.map fun k => Value.agg k.cells) _ (fun v hv => by
      obtain ⟨k, hk, rfl⟩ := List.mem_map.1 hv
      rw [show k = mA from List.eq_of_mem_replicate hk]
      exact mt_size mA_ok) (by simp [K0])]
    rw [List.flatMap_map]
    rfl
theorem built25i : Try.prog.built 25 [(0, .agg iA.cells), (1, .agg zeroI.cells)] = some (iA.list ++ zeroI.list).toArray := by kernel_rfl
theorem built27h : Try.prog.built 27 [(1, .agg (iA.list ++ zeroI.list).toArray)] = some mA.cells := by kernel_rfl
theorem wpList_build25 {w : World} {ops : Array Oper} {rest : List Oper} {o : Oper} {a : Act} {Q : Exit → Act → World → Prop} (hg : o.guard = none) (x y : Operand) (ho : o.op = .build 25 #[(0, x), (1, y)])
    (hx : a.eval x = .agg iA.cells) (hy : a.eval y = .agg zeroI.cells) (h : wpList Try.prog ops Q rest (a.put o.dst (.agg (iA.list ++ zeroI.list).toArray)) w) : wpList Try.prog ops Q (o :: rest) a w := by
  refine wpList_build_to hg 25 _ ho _ ?_ h
  have e : (Array.map (fun (i, x) => (i, a.eval x)) #[(0, x), (1, y)]).toList = [(0, .agg iA.cells), (1, .agg zeroI.cells)] := by simp [hx, hy]
  rw [e]
  exact built25i
theorem wpList_build27h {w : World} {ops : Array Oper} {rest : List Oper} {o : Oper} {a : Act} {Q : Exit → Act → World → Prop} (hg : o.guard = none) (x : Operand) (ho : o.op = .build 27 #[(1, x)])
    (hx : a.eval x = .agg (iA.list ++ zeroI.list).toArray) (h : wpList Try.prog ops Q rest (a.put o.dst (.agg mA.cells)) w) : wpList Try.prog ops Q (o :: rest) a w := by
  refine wpList_build_to hg 27 _ ho _ ?_ h
  have e : (Array.map (fun (i, x) => (i, a.eval x)) #[(1, x)]).toList = [(1, .agg (iA.list ++ zeroI.list).toArray)] := by simp [hx]
  rw [e]
  exact built27h
theorem wpList_twelve {w : World} {ops : Array Oper} {rest : List Oper} {o : Oper} {a : Act} {Q : Exit → Act → World → Prop} (hg : o.guard = none) (x0 x1 x2 x3 x4 x5 x6 x7 x8 x9 x10 x11 : Operand) (ho : o.op = .buildSlice 40 12 #[(0, x0), (1, x1), (2, x2), (3, x3), (4, x4), (5, x5), (6, x6), (7, x7), (8, x8), (9, x9), (10, x10), (11, x11)]) (d : Option Tmp) (hd : o.dst = d) (h0 : a.eval x0 = .agg mA.cells) (h1 : a.eval x1 = .agg mA.cells) (h2 : a.eval x2 = .agg mA.cells) (h3 : a.eval x3 = .agg mA.cells) (h4 : a.eval x4 = .agg mA.cells) (h5 : a.eval x5 = .agg mA.cells) (h6 : a.eval x6 = .agg mA.cells) (h7 : a.eval x7 = .agg mA.cells) (h8 : a.eval x8 = .agg mA.cells) (h9 : a.eval x9 = .agg mA.cells) (h10 : a.eval x10 = .agg mA.cells) (h11 : a.eval x11 = .agg mA.cells)
    (h : wpList Try.prog ops Q rest (a.put d (.slice (some ⟨w.heap.size, 0, none⟩) 12 12)) (w.alloc (.cells (rowC K0) 27))) : wpList Try.prog ops Q (o :: rest) a w := by
  refine Great.wpList_buildSliceTo hg 40 27 12 _ ho w.heap.size rfl d hd Try.underlying40 (rowC K0) ?_ h
  have e : (Array.map (fun (i, x) => (i, a.eval x)) #[(0, x0), (1, x1), (2, x2), (3, x3), (4, x4), (5, x5), (6, x6), (7, x7), (8, x8), (9, x9), (10, x10), (11, x11)]).toList = ((K0.map fun k => Value.agg k.cells).zipIdx.map fun x => (x.2, x.1)) := by
    simp only [List.map_toArray, List.map_cons, List.map_nil, h0, h1, h2, h3, h4, h5, h6, h7, h8, h9, h10, h11]
    rfl
  rw [e]
  exact built12
/-- A store into the row. -/
theorem run_stK {w : World} (K off : Nat) (ty : TypeId) (val : Value) (cs : List Value) (hv : val.cells.toList = cs) (hi : (Try.prog.info? ty).map (·.size) = some cs.length) (h1 : ∀ v ∈ cs, v.oneCell' = true) (L L' : List Mt) (hs : (rowC L).size = 1284) (hg : Has w K 27 (rowC L))
    (he : ((rowC L).toList.take off ++ cs ++ (rowC L).toList.drop (off + cs.length)).toArray = rowC L') (hf : off + cs.length ≤ 1284) : (Instr.storeAt ty (.pointer (some ⟨K, off, none⟩)) val).run Try.prog w = .ok () (w.setRow K (rowC L')) := by
  have hst := run_storeCells_at (P := Try.prog) K off 27 cs 0 (rowC L) w hg (by rw [hs]; omega) h1
  rw [Nat.add_zero, he] at hst
  obtain ⟨q, hq, hsz⟩ := Option.map_eq_some_iff.1 hi
  have hl : val.cells.size = cs.length := by rw [← hv, Array.length_toList]
  have hv2 : (storeVar ty ⟨K, off, none⟩ val).run Try.prog w = .ok () (w.setRow K (rowC L')) := by
    simp [storeVar, sizeOf, typeInfo, hq, hsz, hv, hl, hst]
  simp only [Instr.storeAt, Instr.sureAddr, Sem.run_bind, Sem.run_pure, Result.andThen_ok, hv2]
theorem wpList_stK {w : World} {ops : Array Oper} {rest : List Oper} {o : Oper} {a : Act} {Q : Exit → Act → World → Prop} (hgd : o.guard = none) (ty : TypeId) (x y : Operand) (ho : o.op = .store ty x y) (K off : Nat) (val : Value) (hx : a.eval x = .pointer (some ⟨K, off, none⟩)) (hy : a.eval y = val)
    (cs : List Value) (hv : val.cells.toList = cs) (hi : (Try.prog.info? ty).map (·.size) = some cs.length) (h1 : ∀ v ∈ cs, v.oneCell' = true) (L L' : List Mt) (hs : (rowC L).size = 1284) (hg : Has w K 27 (rowC L))
    (he : ((rowC L).toList.take off ++ cs ++ (rowC L).toList.drop (off + cs.length)).toArray = rowC L') (hf : off + cs.length ≤ 1284)
    (h : ∀ w', Has w' K 27 (rowC L') → Only (fun b => b = K) w w' → wpList Try.prog ops Q rest (a.put o.dst undef) w') : wpList Try.prog ops Q (o :: rest) a w :=
  wpList_plain hgd fun K' hK => by
    unfold Oper.wp execOp
    simp only [ho, hx, hy, Sem.run_bind, run_stK K off ty val cs hv hi h1 L L' hs hg he hf, Result.andThen_ok]
    exact hK _ _ (h _ (setRow_heap _ _ _ _ _ _ hg) ((Only.refl (fun b => b = K) w).setRow rfl _))
theorem step_stK {w : World} {ops : Array Oper} {o : Oper} {a : Act} {K' : Act → World → Prop} {Q : Exit → Act → World → Prop} {E : Prop} (hgd : o.guard = none) (ty : TypeId) (x y : Operand) (ho : o.op = .store ty x y) (K off : Nat) (val : Value) (hx : a.eval x = .pointer (some ⟨K, off, none⟩)) (hy : a.eval y = val)
    (cs : List Value) (hv : val.cells.toList = cs) (hi : (Try.prog.info? ty).map (·.size) = some cs.length) (h1 : ∀ v ∈ cs, v.oneCell' = true) (L L' : List Mt) (hs : (rowC L).size = 1284) (hg : Has w K 27 (rowC L))
    (he : ((rowC L).toList.take off ++ cs ++ (rowC L).toList.drop (off + cs.length)).toArray = rowC L') (hf : off + cs.length ≤ 1284)
    (h : K' (a.put o.dst undef) (w.setRow K (rowC L'))) : if Region.wanted o (yielded ops a.tmps) = true then Oper.wp Try.prog o a w K' Q else E := by
  have hw : Region.wanted o (yielded ops a.tmps) = true := by simp [Region.wanted, hgd]
  rw [if_pos hw]
  unfold Oper.wp execOp
  simp only [ho, hx, hy, Sem.run_bind, run_stK K off ty val cs hv hi h1 L L' hs hg he hf, Result.andThen_ok]
  exact h
theorem int_one (x : Int) : ∀ v ∈ [Value.int .i64 x], v.oneCell' = true := by
  intro v hv
  simp only [List.mem_cons, List.not_mem_nil, or_false] at hv
  subst hv
  rfl
theorem size3 : (Try.prog.info? 3).map (·.size) = some 1 := by kernel_rfl
/-- The row, and the two images beside it. -/
def KS (w0 : World) (a b K : Nat) (L : List Mt) (w : World) : Prop := Has w K 27 (rowC L) ∧ Has w a 24 iA.cells ∧ Has w b 24 iB.cells ∧ Below w0.heap.size w0 w ∧ a < K ∧ b < K ∧ w0.heap.size ≤ K
theorem ks_to {w0 w w' : World} {a b K : Nat} {L L' : List Mt} (h : KS w0 a b K L w) (hg : Has w' K 27 (rowC L')) (o : Only (fun b => b = K) w w') : KS w0 a b K L' w' := by
  obtain ⟨h1, h2, h3, h4, h5, h6, h7⟩ := h
  exact ⟨hg, h2.only o (by omega), h3.only o (by omega), h4.trans (o.to_below h4.size (fun b e => by omega)), h5, h6, h7⟩
theorem ks_drew {w0 w : World} {a b K : Nat} {L : List Mt} (h : KS w0 a b K L w) : KS w0 a b K L w.drew := by
  obtain ⟨h1, h2, h3, h4, h5, h6, h7⟩ := h
  have bd : Below w.heap.size w w.drew := (Below.refl _ _).drew
  exact ⟨h1.kept bd, h2.kept bd, h3.kept bd, h4.trans (bd.mono h4.size), h5, h6, h7⟩
end Go.Proofs.Ythkgbcchnneloaa
