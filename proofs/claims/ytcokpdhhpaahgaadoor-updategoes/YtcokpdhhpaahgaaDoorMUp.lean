/-
  Several texts in one: Up, Ub, Uc, Uf, Ug, Uh, Ui; each says its own conditions.
-/
import Derived.Test.YtcokpdhhpaahgaaDoorMMt
import Derived.Test.YtcokpdhhpaahgaaDoorMMa
import Derived.BigQuiet
namespace Go.Proofs.YtcokpdhhpaahgaaDoor
open Go.RowKit
set_option linter.unusedVariables false
set_option linter.unusedSimpArgs false

/-- What was found beside. -/
structure Fc where
  name : Bool
  tag : Bool
  dig : List Int
  worn : Bool
/-- An answer. -/
structure Rp where
  err : Int
  num : Int
  gott : Int
def Fc.Ok (f : Fc) : Prop := f.dig.length = 32 ∧ Byt f.dig
/-- How many sectors bytes take; how many bytes a chunk has. -/
def chunkI (n : Int) : Int := if n < 1 then 0 else (n - 1) / 320 + 1
def lenI (n k : Int) : Int := if k < 0 then 0 else if chunkI n ≤ k then 0 else if k < chunkI n - 1 then 320 else n - k * 320
def Mt.setOth (m : Mt) (i : Im) : Mt := if m.act = 0 then { m with h1 := i } else { m with h0 := i }
/-- A trial that is given up. -/
def Mt.over (m : Mt) : Mt := { m.setOth zeroI with phase := 0, trials := 0 }
def bad (m : Mt) (e : Int) : Mt × Rp := (m, ⟨e, 0, 0⟩)
def good (m : Mt) : Mt × Rp := (m, ⟨0, 0, 0⟩)
def imOf (x : Man.Mn) : Im := ⟨x.ver, x.size, x.dig⟩
def mayE (m : Mt) (i : Im) (f : Fc) (quota : Int) : Int :=
  if f.name = false then 7 else if f.tag = false then 8 else if mayV m i.ver = false then 9 else if quota < chunkI i.size ∨ 6 < chunkI i.size then 10 else if f.worn = true then 5 else 0
def beginM (m : Mt) (bs : List Int) (f : Fc) (quota : Int) : Mt × Rp :=
  if ¬ m.phase = 0 then bad m 11 else if ¬ Man.Good bs then bad m 6 else if ¬ mayE m (imOf (Man.told bs)) f quota = 0 then bad m (mayE m (imOf (Man.told bs)) f quota)
  else good { m.setOth zeroI with phase := 1, com := imOf (Man.told bs), gott := 0 }
def writeM (m : Mt) (num : Int) (len : Nat) (f : Fc) : Mt × Rp :=
  if ¬ m.phase = 1 then bad m 11 else if ¬ num = m.gott ∨ m.gott = chunkI m.com.size then bad m 12 else if ¬ (len : Int) = lenI m.com.size num then bad m 6 else if f.worn = true then bad m 5
  else good { m with gott := m.gott + 1 }
def verifyM (m : Mt) (f : Fc) : Mt × Rp :=
  if ¬ m.phase = 1 then bad m 11 else if ¬ m.gott = chunkI m.com.size then bad m 12 else if ¬ f.dig = m.com.dig then bad m 13 else if f.worn = true then bad m 5
  else good { m with phase := 2 }
def commitM (m : Mt) (f : Fc) : Mt × Rp :=
  if ¬ m.phase = 2 then bad m 11 else if f.worn = true then bad m 5 else good { m.setOth m.com with phase := 3, com := zeroI, gott := 0, trials := 2 }
def bootM (m : Mt) (f : Fc) : Mt × Rp :=
  if ¬ m.phase = 3 ∨ f.worn = true then (m, ⟨0, m.act, 0⟩) else if 0 < m.trials then ({ m with trials := m.trials - 1 }, ⟨0, 1 - m.act, 0⟩) else (m.over, ⟨0, m.act, 0⟩)
def confirmM (m : Mt) (f : Fc) : Mt × Rp :=
  if ¬ m.phase = 3 ∨ m.trials = 2 then bad m 11 else if f.worn = true then bad m 5 else good { m with least := confN m, act := 1 - m.act, phase := 0, trials := 0 }
def rollM (m : Mt) (f : Fc) : Mt × Rp :=
  if ¬ m.phase = 3 then bad m 11 else if f.worn = true then bad m 5 else good m.over
def abortM (m : Mt) (f : Fc) : Mt × Rp :=
  if m.phase = 0 ∨ m.phase = 3 then bad m 11 else if f.worn = true then bad m 5 else good { m with phase := 0, com := zeroI, gott := 0 }
/-- What is kept once a request is done, and its answer. -/
def stepM (m : Mt) (kind num : Int) (bs : List Int) (f : Fc) (quota : Int) : Mt × Rp :=
  if rightB m = false then bad m 1
  else if kind = 1 then beginM m bs f quota else if kind = 2 then writeM m num bs.length f else if kind = 3 then verifyM m f else if kind = 4 then commitM m f
  else if kind = 5 then bootM m f else if kind = 6 then confirmM m f else if kind = 7 then rollM m f else if kind = 8 then abortM m f
  else if kind = 9 then (m, ⟨0, m.phase, m.gott⟩) else bad m 1

theorem setOth_ok {m : Mt} {i : Im} (h : m.Ok) (hi : i.Ok) : (m.setOth i).Ok := by
  unfold Mt.setOth
  split
  · exact ⟨h.h0, hi, h.com, h.act, h.least, h.phase, h.gott, h.trials⟩
  · exact ⟨hi, h.h1, h.com, h.act, h.least, h.phase, h.gott, h.trials⟩
theorem over_ok {m : Mt} (h : m.Ok) : m.over.Ok := by
  have q := setOth_ok h zeroI_ok
  exact ⟨q.h0, q.h1, q.com, q.act, q.least, i64_zero, q.gott, i64_zero⟩
theorem chunk_same {n : Int} (h : 0 ≤ n) : chunkI n = chunkN n := by unfold chunkI chunkN; split <;> omega
theorem chunk_pos (n : Int) : 0 ≤ chunkI n := by unfold chunkI; split <;> omega
theorem len_min (n k : Int) : lenI n k = if k < 0 then 0 else if chunkI n ≤ k then 0 else if n - k * 320 < 320 then n - k * 320 else 320 := by
  unfold lenI
  by_cases h0 : k < 0
  · rw [if_pos h0, if_pos h0]
  rw [if_neg h0, if_neg h0]
  by_cases h1 : chunkI n ≤ k
  · rw [if_pos h1, if_pos h1]
  rw [if_neg h1, if_neg h1]
  unfold chunkI at h1 ⊢
  by_cases h2 : n < 1
  · rw [if_pos h2] at h1; omega
  rw [if_neg h2] at h1 ⊢
  split <;> split <;> omega
end Go.Proofs.YtcokpdhhpaahgaaDoor

namespace Go.Proofs.YtcokpdhhpaahgaaDoor
open Go.RowKit
set_option linter.unusedVariables false
set_option linter.unusedSimpArgs false

/-- Cells. -/
def Fc.list (f : Fc) : List Value := Value.bool f.name :: Value.bool f.tag :: (nums f.dig ++ [Value.bool f.worn])
def Fc.cells (f : Fc) : Array Value := f.list.toArray
def Rp.cells (r : Rp) : Array Value := #[.int .i64 r.err, .int .i64 r.num, .int .i64 r.gott]
/-- A request: its bytes lie where A says. -/
structure Rq where
  kind : Int
  num : Int
  A : Option Addr
  len : Nat
  cap : Nat
  bs : List Int
def Rq.cells (q : Rq) : Array Value := #[.int .i64 q.kind, .int .i64 q.num, .slice q.A q.len q.cap]
def zeroR : Rp := ⟨0, 0, 0⟩
theorem zero36_run : ∀ w : World, (zeroValue 36).run Tryd.prog w = .ok (.agg zeroR.cells) w := (zero_of_info (P := Tryd.prog) (t := 36) (n := 3) (by kernel_rfl)).1
theorem built36 : Tryd.prog.built 36 [] = some zeroR.cells := by kernel_rfl
theorem built36e (e : Int) : Tryd.prog.built 36 [(0, .int .i64 e)] = some (Rp.cells ⟨e, 0, 0⟩) := by kernel_rfl
theorem built36n (n : Int) : Tryd.prog.built 36 [(1, .int .i64 n)] = some (Rp.cells ⟨0, n, 0⟩) := by kernel_rfl
theorem built36g (n g : Int) : Tryd.prog.built 36 [(1, .int .i64 n), (2, .int .i64 g)] = some (Rp.cells ⟨0, n, g⟩) := by kernel_rfl
theorem rp_all (r : Rp) : r.cells.all (·.oneCell') = true := by simp [Rp.cells, Value.oneCell']
theorem size36 (r : Rp) : (Tryd.prog.info? 36).map (·.size) = some r.cells.size := by show _ = some 3; kernel_rfl
/-- What a call answers: what is kept, and the answer. -/
def Does (x : Mt × Rp) (w : World) (e : Ending) (w' : World) : Prop := e = .returned (.tuple #[.agg x.1.cells, .agg x.2.cells]) ∧ Below w.heap.size w w'
theorem results_two {fn : Func} {p u : Tmp} (h : fn.results = #[.cell p 27, .cell u 36]) (tmps : Array Value) (w : World) (g k : Nat) (m : Mt) (r : Rp)
    (hp : tmps.getD p undef = .pointer (some ⟨g, 0, none⟩)) (hu : tmps.getD u undef = .pointer (some ⟨k, 0, none⟩)) (hg : Has w g 27 m.cells) (hk : Has w k 36 r.cells) (hl : m.Ok) :
    (results fn tmps).run Tryd.prog w = .ok (.tuple #[.agg m.cells, .agg r.cells]) w := by
  have hp' : tmps[p]?.getD undef = .pointer (some ⟨g, 0, none⟩) := by simpa using hp
  have hu' : tmps[u]?.getD undef = .pointer (some ⟨k, 0, none⟩) := by simpa using hu
  have hr := run_loadVar_row w g 27 27 m.cells (0, 0) _ hg Tryd.underlying27 rfl (size27 hl)
  have hr2 := run_loadVar_row w k 36 36 r.cells (0, 0) _ hk Tryd.underlying36 rfl (size36 r)
  simp [results, h, hp', hu', asAddr, hr, hr2]

theorem chunksI_any (n : Int) (w : World) (hn : I64 n) : Calls Tryd.prog 12 #[.int .i64 n] w fun e w' => e = .returned (.int .i64 (chunkI n)) ∧ w = w' := by
  unfold I64 at hn
  by_cases h : n < 1
  · have d : decide (n < 1) = true := decide_eq_true h
    rw [show chunkI n = 0 from if_pos h]
    go_enter Tryd.func12, Tryd.ntmps12
    go_wp2
    go_ret
    exact ⟨rfl, rfl⟩
  · have d : decide (n < 1) = false := decide_eq_false h
    have hc : chunkI n = (n - 1) / 320 + 1 := if_neg h
    go_enter Tryd.func12, Tryd.ntmps12
    go_wp2
    go_ret
    exact ⟨ret_int (by first | rfl | omega), rfl⟩
theorem rchunksI_any (n : Int) (w : World) (hn : I64 n) : Calls Tryd.prog 13 #[.int .i64 n] w fun e w' => e = .returned (.int .i64 (chunkI n)) ∧ w = w' := by
  unfold I64 at hn
  by_cases h : n < 1
  · have d : decide (n < 1) = true := decide_eq_true h
    rw [show chunkI n = 0 from if_pos h]
    go_enter Tryd.func13, Tryd.ntmps13
    go_wp2
    go_ret
    exact ⟨rfl, rfl⟩
  · have d : decide (n < 1) = false := decide_eq_false h
    have hc : chunkI n = (n - 1) / 320 + 1 := if_neg h
    go_enter Tryd.func13, Tryd.ntmps13
    go_wp2
    go_ret
    exact ⟨ret_int (by first | rfl | omega), rfl⟩
set_option maxRecDepth 100000 in
theorem lenI_any (n k : Int) (w : World) (hn : I64 n) (hk : I64 k) : Calls Tryd.prog 14 #[.int .i64 n, .int .i64 k] w fun e w' => e = .returned (.int .i64 (lenI n k)) ∧ w = w' := by
  have HC := Lib.hid (chunksI_any n w hn)
  have hp := chunk_pos n
  unfold I64 at hn hk
  have hup : chunkI n ≤ 28823037615171175 := by unfold chunkI; split <;> omega
  have hm := len_min n k
  obtain ⟨x, hx⟩ : ∃ x, chunkI n = x := ⟨_, rfl⟩
  obtain ⟨y, hy⟩ : ∃ y, lenI n k = y := ⟨_, rfl⟩
  have hlo : x = 0 ∨ (1 ≤ n ∧ x * 320 - 320 ≤ n - 1 ∧ n ≤ x * 320) := by rw [← hx]; unfold chunkI; split <;> omega
  rw [hx] at HC hp hup hm
  rw [hy] at hm ⊢
  clear hx hy
  by_cases h0 : k < 0
  · rw [if_pos h0] at hm
    have d0 : decide (k < 0) = true := decide_eq_true h0
    subst hm
    go_enter Tryd.func14, Tryd.ntmps14
    go_wp2
    go_ret
    exact ⟨rfl, rfl⟩
  rw [if_neg h0] at hm
  have d0 : decide (k < 0) = false := decide_eq_false h0
  by_cases h1 : x ≤ k
  · rw [if_pos h1] at hm
    have d1 : decide (x ≤ k) = true := decide_eq_true h1
    subst hm
    go_enter Tryd.func14, Tryd.ntmps14
    go_wp2_with (first | (go_at_call 12; (with_reducible refine HC.out.mono ?_); rintro e w1 ⟨rfl, rfl⟩))
    go_ret
    exact ⟨rfl, rfl⟩
  rw [if_neg h1] at hm
  have hbd : 1 ≤ n - k * 320 ∧ n - k * 320 ≤ n := by omega
  have d1 : decide (x ≤ k) = false := decide_eq_false h1
  go_enter Tryd.func14, Tryd.ntmps14
  go_wp2_with (first | (go_at_call 12; (with_reducible refine HC.out.mono ?_); rintro e w1 ⟨rfl, rfl⟩))
  all_goals (go_ret; exact ⟨ret_int (by omega), rfl⟩)
set_option maxRecDepth 100000 in
theorem rlenI_any (n k : Int) (w : World) (hn : I64 n) (hk : I64 k) : Calls Tryd.prog 15 #[.int .i64 n, .int .i64 k] w fun e w' => e = .returned (.int .i64 (lenI n k)) ∧ w = w' := by
  have HC := Lib.hid (rchunksI_any n w hn)
  have hp := chunk_pos n
  unfold I64 at hn hk
  have hup : chunkI n ≤ 28823037615171175 := by unfold chunkI; split <;> omega
  have hm : lenI n k = if k < 0 then 0 else if chunkI n ≤ k then 0 else if k < chunkI n - 1 then 320 else n - k * 320 := rfl
  obtain ⟨x, hx⟩ : ∃ x, chunkI n = x := ⟨_, rfl⟩
  obtain ⟨y, hy⟩ : ∃ y, lenI n k = y := ⟨_, rfl⟩
  have hlo : x = 0 ∨ (1 ≤ n ∧ x * 320 - 320 ≤ n - 1 ∧ n ≤ x * 320) := by rw [← hx]; unfold chunkI; split <;> omega
  rw [hx] at HC hp hup hm
  rw [hy] at hm ⊢
  clear hx hy
  by_cases h0 : k < 0
  · rw [if_pos h0] at hm
    have d0 : decide (k < 0) = true := decide_eq_true h0
    subst hm
    go_enter Tryd.func15, Tryd.ntmps15
    go_wp2
    go_ret
    exact ⟨rfl, rfl⟩
  rw [if_neg h0] at hm
  have d0 : decide (k < 0) = false := decide_eq_false h0
  by_cases h1 : x ≤ k
  · rw [if_pos h1] at hm
    have d1 : decide (x ≤ k) = true := decide_eq_true h1
    subst hm
    go_enter Tryd.func15, Tryd.ntmps15
    go_wp2_with (first | (go_at_call 13; (with_reducible refine HC.out.mono ?_); rintro e w1 ⟨rfl, rfl⟩))
    go_ret
    exact ⟨rfl, rfl⟩
  rw [if_neg h1] at hm
  have hbd : 1 ≤ n - k * 320 ∧ n - k * 320 ≤ n := by omega
  have d1 : decide (x ≤ k) = false := decide_eq_false h1
  by_cases h2 : k < x - 1
  · rw [if_pos h2] at hm
    have d2 : decide (k < x - 1) = true := decide_eq_true h2
    subst hm
    go_enter Tryd.func15, Tryd.ntmps15
    go_wp2_with (first | (go_at_call 13; (with_reducible refine HC.out.mono ?_); rintro e w1 ⟨rfl, rfl⟩))
    go_ret
    exact ⟨rfl, rfl⟩
  · rw [if_neg h2] at hm
    have d2 : decide (k < x - 1) = false := decide_eq_false h2
    go_enter Tryd.func15, Tryd.ntmps15
    go_wp2_with (first | (go_at_call 13; (with_reducible refine HC.out.mono ?_); rintro e w1 ⟨rfl, rfl⟩))
    go_ret
    exact ⟨ret_int (by first | exact hm.symm | omega), rfl⟩
end Go.Proofs.YtcokpdhhpaahgaaDoor

namespace Go.Proofs.YtcokpdhhpaahgaaDoor
open Go.RowKit
set_option linter.unusedVariables false
set_option linter.unusedSimpArgs false

theorem only_set (w : World) (q : Addr) (v : Value) : Only (fun b => b = q.block) w (w.setCell q v) :=
  ⟨rfl, rfl, rfl, by simp [World.setCell], fun b hb hp => Below.heap_setCell _ _ _ _ (fun e => hp e)⟩
/-- A number stored into what is kept; the world behind it under a name. -/
theorem wpList_st3 {w : World} {ops : Array Oper} {rest : List Oper} {o : Oper} {a : Act} {Q : Exit → Act → World → Prop} (hgd : o.guard = none) (x y : Operand) (ho : o.op = .store 3 x y)
    (g k : Nat) (z : Int) (hx : a.eval x = .pointer (some ⟨g, k, none⟩)) (hy : a.eval y = .int .i64 z) (m m' : Mt) (hg : Has w g 27 m.cells) (hk : k < 107) (hc : m.cells.setIfInBounds k (.int .i64 z) = m'.cells) (hm : m.Ok)
    (h : ∀ w', Has w' g 27 m'.cells → Only (fun b => b = g) w w' → wpList Tryd.prog ops Q rest (a.put o.dst undef) w') : wpList Tryd.prog ops Q (o :: rest) a w :=
  wpList_plain hgd fun K hK => by
    have hs := mt_size hm
    obtain ⟨old, hold⟩ : ∃ old, w.cell? ⟨g, k, none⟩ = some old := by rw [hg.at k]; exact ⟨_, Array.getElem?_eq_getElem (by omega)⟩
    have hf := hg.soft k
    have hp := hg.put k (.int .i64 z)
    rw [hc] at hp
    have ex := h _ hp (only_set w ⟨g, k, none⟩ _)
    have e : (Instr.storeAt 3 (.pointer (some ⟨g, k, none⟩)) (.int .i64 z)).run Tryd.prog w = .ok () (w.setCell ⟨g, k, none⟩ (.int .i64 z)) := by
      go_simp
    unfold Oper.wp execOp
    simp only [ho, hx, hy, Sem.run_bind, e, Result.andThen_ok]
    exact hK _ _ ex
/-- An image stored into the middle of what is kept. -/
theorem wpList_st24 {w : World} {ops : Array Oper} {rest : List Oper} {o : Oper} {a : Act} {Q : Exit → Act → World → Prop} (hgd : o.guard = none) (x y : Operand) (ho : o.op = .store 24 x y)
    (g off : Nat) (i : Im) (hx : a.eval x = .pointer (some ⟨g, off, none⟩)) (hy : a.eval y = .agg i.cells) (m m' : Mt) (hm : m.Ok) (hi : i.Ok) (hg : Has w g 27 m.cells)
    (he : (m.cells.toList.take off ++ i.list ++ m.cells.toList.drop (off + i.list.length)).toArray = m'.cells) (hf : off + 34 ≤ 107)
    (h : ∀ w', Has w' g 27 m'.cells → Only (fun b => b = g) w w' → wpList Tryd.prog ops Q rest (a.put o.dst undef) w') : wpList Tryd.prog ops Q (o :: rest) a w := by
  refine wpList_plain hgd fun K hK => ?_
  have hl := iml_len hi
  have hst := run_storeCells_at (P := Tryd.prog) g off 27 i.list 0 m.cells w hg (by rw [mt_size hm, hl]; omega) (iml_one i)
  rw [Nat.add_zero, he] at hst
  obtain ⟨q, hq, hsz⟩ := Option.map_eq_some_iff.1 size24n
  have hv : (storeVar 24 ⟨g, off, none⟩ (.agg i.cells)).run Tryd.prog w = .ok () (w.setRow g m'.cells) := by
    have h8 : i.cells.size = 34 := im_size hi
    have h9 : i.cells.toList = i.list := rfl
    simp [storeVar, sizeOf, typeInfo, hq, hsz, Value.cells, h8, h9, hst]
  unfold Oper.wp execOp
  simp only [ho, hx, hy, Instr.storeAt, Instr.sureAddr, Sem.run_bind, Sem.run_pure, Result.andThen_ok, hv]
  exact hK _ _ (h _ (setRow_heap _ _ _ _ _ _ hg) ((Only.refl (fun b => b = g) w).setRow rfl _))
theorem i64_one : I64 1 := by unfold I64; omega
theorem other_any (m : Mt) (k : Int) (w : World) (hm : m.Ok) (hk : 1 - m.act = k) (ha : m.act = 0 ∨ m.act = 1) : Calls Tryd.prog 42 #[.agg m.cells] w fun e w' => e = .returned (.int .i64 k) ∧ Below w.heap.size w w' := by
  have hb : Below w.heap.size w (w.alloc (.cells m.cells 27)) := (Below.refl _ _).alloc (Nat.le_refl _) _
  have c0 := (seen_of (has_new w 27 m.cells) hm).act
  go_enter Tryd.func42, Tryd.ntmps42
  go_wp2
  go_ret
  exact ⟨ret_int (by omega), hb⟩
set_option maxRecDepth 100000 in
theorem refuse_any (m : Mt) (x : Int) (w : World) (hm : m.Ok) : Calls Tryd.prog 20 #[.agg m.cells, .int .i64 x] w (Does (bad m x) w) := by
  have hz27 := zero27_run
  have hz36 := zero36_run
  have C0 : Hid (Below w.heap.size w (((w.alloc (.cells m.cells 27)).alloc (.cells zeroT.cells 27)).alloc (.cells zeroR.cells 36))) := Lib.hid ((((Below.refl _ _).alloc (Nat.le_refl _) _).alloc (by simp) _).alloc (by simp; omega) _)
  have H0 := Lib.hid (((has_new w 27 m.cells).more (.cells zeroT.cells 27)).more (.cells zeroR.cells 36))
  have O0 : Hid (Has (((w.alloc (.cells m.cells 27)).alloc (.cells zeroT.cells 27)).alloc (.cells zeroR.cells 36)) (w.heap.size + 1) 27 zeroT.cells) := Lib.hid (by have := (has_new (w.alloc (.cells m.cells 27)) 27 zeroT.cells).more (.cells zeroR.cells 36); rwa [World.size_alloc] at this)
  have R0 : Hid (Has (((w.alloc (.cells m.cells 27)).alloc (.cells zeroT.cells 27)).alloc (.cells zeroR.cells 36)) (w.heap.size + 1 + 1) 36 zeroR.cells) := Lib.hid (by have := has_new ((w.alloc (.cells m.cells 27)).alloc (.cells zeroT.cells 27)) 36 zeroR.cells; rwa [World.size_alloc, World.size_alloc] at this)
  have l0 := ld27 H0.out hm
  go_enter Tryd.func20, Tryd.ntmps20
  go_wp2_with (first
    | (refine wpList_ld 27 _ rfl _ _ l0 rfl rfl ?_)
    | (refine wpList_build_to rfl 36 _ rfl _ (built36e x) ?_)
    | (refine wpList_row rfl 27 _ _ rfl (w.heap.size + 1) m.cells rfl rfl 27 _ O0.out (size27 hm) (old27 zeroT_ok hm) (mt_all _) ?_; intro w1 hs1 on1; have O1 := Lib.hid hs1; have C1 := Lib.hid (C0.out.trans (on1.to_below C0.out.size (fun b e => by omega))); have R1 := Lib.hid (Has.only R0.out on1 (by omega)); clear hs1 on1)
    | (refine wpList_row rfl 36 _ _ rfl (w.heap.size + 1 + 1) (Rp.cells ⟨x, 0, 0⟩) rfl rfl 36 _ R1.out (size36 _) rfl (rp_all _) ?_; intro w2 hs2 on2; have R2 := Lib.hid hs2; have C2 := Lib.hid (C1.out.trans (on2.to_below C1.out.size (fun b e => by omega))); have O2 := Lib.hid (Has.only O1.out on2 (by omega)); clear hs2 on2))
  exact bodyPost_ret (results_two (p := 4) (u := 5) rfl _ _ _ _ m ⟨x, 0, 0⟩ rfl rfl O2.out R2.out hm) rfl ⟨rfl, C2.out⟩
set_option maxRecDepth 100000 in
theorem err_any (x : Int) (w : World) : Calls Tryd.prog 29 #[.int .i64 x] w fun e w' => e = .returned (.agg (Rp.cells ⟨x, 0, 0⟩)) ∧ Below w.heap.size w w' := by
  have hz36 := zero36_run
  have C0 : Hid (Below w.heap.size w (w.alloc (.cells zeroR.cells 36))) := Lib.hid ((Below.refl _ _).alloc (Nat.le_refl _) _)
  have R0 := Lib.hid (has_new w 36 zeroR.cells)
  go_enter Tryd.func29, Tryd.ntmps29
  go_wp2_with (first
    | (refine wpList_build_to rfl 36 _ rfl _ (built36e x) ?_)
    | (refine wpList_row rfl 36 _ _ rfl w.heap.size (Rp.cells ⟨x, 0, 0⟩) rfl rfl 36 _ R0.out (size36 _) rfl (rp_all _) ?_; intro w2 hs2 on2; have R2 := Lib.hid hs2; have C2 := Lib.hid (C0.out.trans (on2.to_below C0.out.size (fun b e => by omega))); clear hs2 on2))
  exact bodyPost_ret (results_cell_row rfl _ _ _ 36 (Rp.cells ⟨x, 0, 0⟩) (0, 0) _ rfl R2.out Tryd.underlying36 rfl (size36 _)) rfl ⟨rfl, C2.out⟩
set_option maxRecDepth 100000 in
theorem there_any (m : Mt) (w : World) (hm : m.Ok) : Calls Tryd.prog 43 #[.agg m.cells] w fun e w' => e = .returned (.bool (decide (m.gott = chunkI m.com.size))) ∧ Below w.heap.size w w' := by
  have hb : Below w.heap.size w (w.alloc (.cells m.cells 27)) := (Below.refl _ _).alloc (Nat.le_refl _) _
  have S := seen_of (has_new w 27 m.cells) hm
  have cs := S.s2
  have cg := S.gott
  have HC : ∀ W, Calls Tryd.prog 12 #[.int .i64 m.com.size] W fun e w' => e = .returned (.int .i64 (chunkI m.com.size)) ∧ w' = W := fun W => (chunksI_any m.com.size W hm.com.2.2.2).mono fun e w' h => ⟨h.1, h.2.symm⟩
  obtain ⟨x, hx⟩ : ∃ x, chunkI m.com.size = x := ⟨_, rfl⟩
  simp only [hx] at HC ⊢
  clear hx S
  go_enter Tryd.func43, Tryd.ntmps43
  go_wp2_with (go_quiet ((go_at_call 12; exact Calls.quiet_of_same (HC _))))
  go_ret
  exact ⟨ret_bool (beq_dec _ _), below_drewN hb _⟩
end Go.Proofs.YtcokpdhhpaahgaaDoor

namespace Go.Proofs.YtcokpdhhpaahgaaDoor
open Go.RowKit
set_option linter.unusedVariables false
set_option linter.unusedSimpArgs false

theorem fl_len {f : Fc} (h : f.Ok) : f.list.length = 35 := by simp [Fc.list, nums_len, h.1]
theorem fl_one (f : Fc) : ∀ v ∈ f.list, v.oneCell' = true := by
  intro v hv
  simp only [Fc.list, List.mem_cons, List.mem_append, List.not_mem_nil, or_false] at hv
  rcases hv with rfl | rfl | hv | rfl
  · rfl
  · rfl
  · exact nums_one _ v hv
  · rfl
theorem fc_all (f : Fc) : f.cells.all (·.oneCell') = true := all_oneCell_toArray (fl_one f)
theorem size32 {f : Fc} (h : f.Ok) : (Tryd.prog.info? 32).map (·.size) = some f.cells.size := by
  rw [show f.cells.size = 35 by simp [Fc.cells, fl_len h]]; kernel_rfl
theorem size30 (q : Rq) : (Tryd.prog.info? 30).map (·.size) = some q.cells.size := by show _ = some 3; kernel_rfl
theorem rq_all (q : Rq) : q.cells.all (·.oneCell') = true := by simp [Rq.cells, Value.oneCell']
theorem fc_worn {f : Fc} (h : f.Ok) : f.cells[34]? = some (.bool f.worn) := by
  have hl : (nums f.dig).length = 32 := by rw [nums_len, h.1]
  simp only [Fc.cells, List.getElem?_toArray, Fc.list]
  rw [show 34 = 32 + 1 + 1 by omega, List.getElem?_cons_succ, List.getElem?_cons_succ, List.getElem?_append_right (by omega), hl]
  rfl
theorem fc_dig {f : Fc} (h : f.Ok) (j : Nat) (hj : j < 32) : f.cells[2 + j]? = (nums f.dig)[j]? := by
  have hl : (nums f.dig).length = 32 := by rw [nums_len, h.1]
  simp only [Fc.cells, List.getElem?_toArray, Fc.list]
  rw [show 2 + j = j + 1 + 1 by omega, List.getElem?_cons_succ, List.getElem?_cons_succ, List.getElem?_append_left (by omega)]
theorem size22l {zs : List Int} (h : zs.length = 32) : (Tryd.prog.info? 22).map (·.size) = some (nums zs).length := by rw [nums_len, h]; exact size22
/-- All that is read of what was found beside, in a world. -/
structure SeenF (w : World) (g : Nat) (f : Fc) : Prop where
  name : w.cell? ⟨g, 0, none⟩ = some (.bool f.name)
  tag : w.cell? ⟨g, 1, none⟩ = some (.bool f.tag)
  worn : w.cell? ⟨g, 34, none⟩ = some (.bool f.worn)
  dig : (Instr.loadAt 22 (.pointer (some ⟨g, 2, none⟩))).run Tryd.prog w = .ok (.agg (nums f.dig).toArray) w
  all : (Instr.loadAt 32 (.pointer (some ⟨g, 0, none⟩))).run Tryd.prog w = .ok (.agg f.cells) w
theorem seen_f {w : World} {g : Nat} {f : Fc} (hg : Has w g 32 f.cells) (h : f.Ok) : SeenF w g f := by
  refine ⟨hg.at 0, hg.at 1, (hg.at 34).trans (fc_worn h), run_loadAt_mid w g 2 22 (nums f.dig) _ ?_ Tryd.underlying22 rfl (size22l h.1), ?_⟩
  · intro j v hv
    have hj : j < 32 := by have := (List.getElem?_eq_some_iff.1 hv).1; rwa [nums_len, h.1] at this
    rw [hg.at, fc_dig h j hj]; exact hv
  · simp only [Instr.loadAt, Instr.sureAddr, Sem.run_bind, Sem.run_pure, Result.andThen_ok, run_loadVar_row w g 32 32 f.cells (0, 0) _ hg Tryd.underlying32 rfl (size32 h)]
/-- The digest of what comes. -/
theorem ld_dig {w : World} {g : Nat} {m : Mt} (hg : Has w g 27 m.cells) (h : m.Ok) : (Instr.loadAt 22 (.pointer (some ⟨g, 73, none⟩))).run Tryd.prog w = .ok (.agg (nums m.com.dig).toArray) w := by
  refine run_loadAt_mid w g 73 22 (nums m.com.dig) _ ?_ Tryd.underlying22 rfl (size22l h.com.1)
  intro j v hv
  have hj : j < 32 := by have := (List.getElem?_eq_some_iff.1 hv).1; rwa [nums_len, h.com.1] at this
  rw [hg.at, show 73 + j = 71 + (2 + j) by omega, mt_com h (2 + j) (by omega)]
  show (Value.int .i64 m.com.ver :: Value.int .i64 m.com.size :: nums m.com.dig)[2 + j]? = _
  rw [show 2 + j = j + 1 + 1 by omega, List.getElem?_cons_succ, List.getElem?_cons_succ]; exact hv
/-- All that is read of a request, in a world. -/
structure SeenQ (w : World) (g : Nat) (q : Rq) : Prop where
  kind : w.cell? ⟨g, 0, none⟩ = some (.int .i64 q.kind)
  num : w.cell? ⟨g, 1, none⟩ = some (.int .i64 q.num)
  bytes : w.cell? ⟨g, 2, none⟩ = some (.slice q.A q.len q.cap)
  all : (Instr.loadAt 30 (.pointer (some ⟨g, 0, none⟩))).run Tryd.prog w = .ok (.agg q.cells) w
theorem seen_q {w : World} {g : Nat} {q : Rq} (hg : Has w g 30 q.cells) : SeenQ w g q :=
  ⟨hg.at 0, hg.at 1, hg.at 2, by simp only [Instr.loadAt, Instr.sureAddr, Sem.run_bind, Sem.run_pure, Result.andThen_ok, run_loadVar_row w g 30 30 q.cells (0, 0) _ hg Tryd.underlying30 rfl (size30 q)]⟩
/-- Two arguments, two results. -/
structure Fr (w0 : World) (m : Mt) (f : Fc) (w : World) : Prop where
  hm : Has w w0.heap.size 27 m.cells
  hf : Has w (w0.heap.size + 1) 32 f.cells
  ho : Has w (w0.heap.size + 1 + 1) 27 zeroT.cells
  hr : Has w (w0.heap.size + 1 + 1 + 1) 36 zeroR.cells
  hb : Below w0.heap.size w0 w
theorem has_new' (w : World) (t : TypeId) (cs : Array Value) (B : Nat) (h : w.heap.size = B) : Has (w.alloc (.cells cs t)) B t cs := h ▸ has_new w t cs
theorem fr_new (m : Mt) (f : Fc) (w : World) : Fr w m f ((((w.alloc (.cells m.cells 27)).alloc (.cells f.cells 32)).alloc (.cells zeroT.cells 27)).alloc (.cells zeroR.cells 36)) :=
  ⟨(((has_new w 27 m.cells).more _).more _).more _, ((has_new' _ 32 f.cells _ (by simp)).more _).more _, (has_new' _ 27 zeroT.cells _ (by simp)).more _, has_new' _ 36 zeroR.cells _ (by simp),
    ((((Below.refl _ _).alloc (Nat.le_refl _) _).alloc (by simp) _).alloc (by simp; omega) _).alloc (by simp; omega) _⟩
theorem Fr.kept {w0 w w' : World} {m : Mt} {f : Fc} (h : Fr w0 m f w) (b : Below w.heap.size w w') : Fr w0 m f w' :=
  ⟨h.hm.kept b, h.hf.kept b, h.ho.kept b, h.hr.kept b, h.hb.trans (b.mono h.hb.size)⟩
theorem Fr.set {w0 w w' : World} {m m' : Mt} {f : Fc} (h : Fr w0 m f w) (hg : Has w' w0.heap.size 27 m'.cells) (on : Only (fun b => b = w0.heap.size) w w') : Fr w0 m' f w' :=
  ⟨hg, Has.only h.hf on (by omega), Has.only h.ho on (by omega), Has.only h.hr on (by omega), h.hb.trans (on.to_below h.hb.size (fun b e => by omega))⟩
/-- Three arguments, two results. -/
structure Gr (w0 : World) (m : Mt) (q : Rq) (f : Fc) (w : World) : Prop where
  hm : Has w w0.heap.size 27 m.cells
  hq : Has w (w0.heap.size + 1) 30 q.cells
  hf : Has w (w0.heap.size + 1 + 1) 32 f.cells
  ho : Has w (w0.heap.size + 1 + 1 + 1) 27 zeroT.cells
  hr : Has w (w0.heap.size + 1 + 1 + 1 + 1) 36 zeroR.cells
  hb : Below w0.heap.size w0 w
theorem gr_new (m : Mt) (q : Rq) (f : Fc) (w : World) : Gr w m q f (((((w.alloc (.cells m.cells 27)).alloc (.cells q.cells 30)).alloc (.cells f.cells 32)).alloc (.cells zeroT.cells 27)).alloc (.cells zeroR.cells 36)) :=
  ⟨((((has_new w 27 m.cells).more _).more _).more _).more _, (((has_new' _ 30 q.cells _ (by simp)).more _).more _).more _, ((has_new' _ 32 f.cells _ (by simp)).more _).more _, (has_new' _ 27 zeroT.cells _ (by simp)).more _, has_new' _ 36 zeroR.cells _ (by simp),
    (((((Below.refl _ _).alloc (Nat.le_refl _) _).alloc (by simp) _).alloc (by simp; omega) _).alloc (by simp; omega) _).alloc (by simp; omega) _⟩
theorem Gr.kept {w0 w w' : World} {m : Mt} {q : Rq} {f : Fc} (h : Gr w0 m q f w) (b : Below w.heap.size w w') : Gr w0 m q f w' :=
  ⟨h.hm.kept b, h.hq.kept b, h.hf.kept b, h.ho.kept b, h.hr.kept b, h.hb.trans (b.mono h.hb.size)⟩
theorem Gr.set {w0 w w' : World} {m m' : Mt} {q : Rq} {f : Fc} (h : Gr w0 m q f w) (hg : Has w' w0.heap.size 27 m'.cells) (on : Only (fun b => b = w0.heap.size) w w') : Gr w0 m' q f w' :=
  ⟨hg, Has.only h.hq on (by omega), Has.only h.hf on (by omega), Has.only h.ho on (by omega), Has.only h.hr on (by omega), h.hb.trans (on.to_below h.hb.size (fun b e => by omega))⟩
theorem below_drew {B : Nat} {w : World} : Below B w w.drew := (Below.refl B w).drew
/-- Both results, stored: the end of a call. -/
structure Out (w0 : World) (B k : Nat) (m : Mt) (r : Rp) (w : World) : Prop where
  ho : Has w B 27 m.cells
  hr : Has w k 36 r.cells
  hb : Below w0.heap.size w0 w
theorem out_ret {fn : Func} {p u : Tmp} (h : fn.results = #[.cell p 27, .cell u 36]) (a : Act) (w0 w : World) (B k : Nat) (x : Mt × Rp) (m : Mt) (r : Rp) (hx : x = (m, r))
    (hp : a.tmps.getD p undef = .pointer (some ⟨B, 0, none⟩)) (hu : a.tmps.getD u undef = .pointer (some ⟨k, 0, none⟩)) (hd : a.defers = []) (ho : Out w0 B k m r w) (hl : m.Ok) :
    bodyPost Tryd.prog fn (Does x w0) .ret a w := by
  subst hx
  exact bodyPost_ret (results_two h a.tmps w B k m r hp hu ho.ho ho.hr hl) hd ⟨rfl, ho.hb⟩
end Go.Proofs.YtcokpdhhpaahgaaDoor

namespace Go.Proofs.YtcokpdhhpaahgaaDoor
open Go.RowKit
set_option linter.unusedVariables false
set_option linter.unusedSimpArgs false

theorem there_is {m : Mt} (w : World) (hm : m.Ok) (b : Bool) (h : decide (m.gott = chunkI m.com.size) = b) : Calls Tryd.prog 43 #[.agg m.cells] w fun e w' => e = .returned (.bool b) ∧ Below w.heap.size w w' := by rw [← h]; exact there_any m w hm
/-- Two digests compare. -/
theorem wpList_ne22 {w : World} {ops : Array Oper} {rest : List Oper} {o : Oper} {a : Act} {Q : Exit → Act → World → Prop} (x y : Operand) (ho : o.op = .binOp .neq 22 x y 22) (xs ys : List Int) (hx : a.eval x = .agg (nums xs).toArray) (hy : a.eval y = .agg (nums ys).toArray) (hxl : xs.length = 32) (hyl : ys.length = 32) (z : Bool) (hz : (!decide (xs = ys)) = z) (hw : Region.wanted o (yielded ops a.tmps) = true)
    (h : wpList Tryd.prog ops Q rest (a.put o.dst (.bool z)) w) : wpList Tryd.prog ops Q (o :: rest) a w :=
  wpList_step fun K hK => by
    rw [if_pos hw]
    have h1 := run_eqGuard_agg (P := Tryd.prog) w .neq 22 x y (nums xs).toArray (nums ys).toArray (by kernel_rfl)
    have h2 := run_neq_struct (P := Tryd.prog) w 22 (nums xs).toArray (nums ys).toArray
    rw [eq22 hxl hyl w 9998, Result.andThen_ok, hz] at h2
    unfold Oper.wp execOp
    simp only [ho, hx, hy, Sem.run_bind, h1, h2, Result.andThen_ok]
    exact hK _ _ h
end Go.Proofs.YtcokpdhhpaahgaaDoor

namespace Go.Proofs.YtcokpdhhpaahgaaDoor
open Go.RowKit
set_option linter.unusedVariables false
set_option linter.unusedSimpArgs false

/-- Two arguments, two results. -/
structure Fq (w0 : World) (f : Fc) (m xo : Mt) (xr : Rp) (w : World) : Prop where
  okf : f.Ok
  ok : m.Ok
  oko : xo.Ok
  hm : Has w w0.heap.size 27 m.cells
  hf : Has w (w0.heap.size + 1) 32 f.cells
  ho : Has w (w0.heap.size + 1 + 1) 27 xo.cells
  hr : Has w (w0.heap.size + 1 + 1 + 1) 36 xr.cells
  hb : Below w0.heap.size w0 w
theorem fq_new {m : Mt} {f : Fc} (w : World) (hm : m.Ok) (hf : f.Ok) : Fq w f m zeroT zeroR ((((w.alloc (.cells m.cells 27)).alloc (.cells f.cells 32)).alloc (.cells zeroT.cells 27)).alloc (.cells zeroR.cells 36)) :=
  let h := fr_new m f w
  ⟨hf, hm, zeroT_ok, h.hm, h.hf, h.ho, h.hr, h.hb⟩
theorem Fq.kept {w0 w w' : World} {m xo : Mt} {f : Fc} {xr : Rp} (h : Fq w0 f m xo xr w) (b : Below w.heap.size w w') : Fq w0 f m xo xr w' :=
  ⟨h.okf, h.ok, h.oko, h.hm.kept b, h.hf.kept b, h.ho.kept b, h.hr.kept b, h.hb.trans (b.mono h.hb.size)⟩
theorem Fq.drew {w0 w : World} {m xo : Mt} {f : Fc} {xr : Rp} (h : Fq w0 f m xo xr w) : Fq w0 f m xo xr w.drew := ⟨h.okf, h.ok, h.oko, h.hm, h.hf, h.ho, h.hr, h.hb.drew⟩
theorem Fq.set {w0 w w' : World} {m m' xo : Mt} {f : Fc} {xr : Rp} (h : Fq w0 f m xo xr w) (hk : m'.Ok) (hg : Has w' w0.heap.size 27 m'.cells) (on : Only (fun b => b = w0.heap.size) w w') : Fq w0 f m' xo xr w' :=
  ⟨h.okf, hk, h.oko, hg, Has.only h.hf on (by omega), Has.only h.ho on (by omega), Has.only h.hr on (by omega), h.hb.trans (on.to_below h.hb.size (fun b e => by omega))⟩
theorem Fq.seto {w0 w w' : World} {m xo x' : Mt} {f : Fc} {xr : Rp} (h : Fq w0 f m xo xr w) (hk : x'.Ok) (hg : Has w' (w0.heap.size + 1 + 1) 27 x'.cells) (on : Only (fun b => b = w0.heap.size + 1 + 1) w w') : Fq w0 f m x' xr w' :=
  ⟨h.okf, h.ok, hk, Has.only h.hm on (by omega), Has.only h.hf on (by omega), hg, Has.only h.hr on (by omega), h.hb.trans (on.to_below h.hb.size (fun b e => by omega))⟩
theorem Fq.setr {w0 w w' : World} {m xo : Mt} {f : Fc} {xr r' : Rp} (h : Fq w0 f m xo xr w) (hg : Has w' (w0.heap.size + 1 + 1 + 1) 36 r'.cells) (on : Only (fun b => b = w0.heap.size + 1 + 1 + 1) w w') : Fq w0 f m xo r' w' :=
  ⟨h.okf, h.ok, h.oko, Has.only h.hm on (by omega), Has.only h.hf on (by omega), Has.only h.ho on (by omega), hg, h.hb.trans (on.to_below h.hb.size (fun b e => by omega))⟩
/-- Three arguments, two results. -/
structure Gq (w0 : World) (q : Rq) (f : Fc) (m xo : Mt) (xr : Rp) (w : World) : Prop where
  okf : f.Ok
  ok : m.Ok
  oko : xo.Ok
  hm : Has w w0.heap.size 27 m.cells
  hq : Has w (w0.heap.size + 1) 30 q.cells
  hf : Has w (w0.heap.size + 1 + 1) 32 f.cells
  ho : Has w (w0.heap.size + 1 + 1 + 1) 27 xo.cells
  hr : Has w (w0.heap.size + 1 + 1 + 1 + 1) 36 xr.cells
  hb : Below w0.heap.size w0 w
theorem gq_new {m : Mt} {f : Fc} (q : Rq) (w : World) (hm : m.Ok) (hf : f.Ok) : Gq w q f m zeroT zeroR (((((w.alloc (.cells m.cells 27)).alloc (.cells q.cells 30)).alloc (.cells f.cells 32)).alloc (.cells zeroT.cells 27)).alloc (.cells zeroR.cells 36)) :=
  let h := gr_new m q f w
  ⟨hf, hm, zeroT_ok, h.hm, h.hq, h.hf, h.ho, h.hr, h.hb⟩
theorem Gq.kept {w0 w w' : World} {m xo : Mt} {q : Rq} {f : Fc} {xr : Rp} (h : Gq w0 q f m xo xr w) (b : Below w.heap.size w w') : Gq w0 q f m xo xr w' :=
  ⟨h.okf, h.ok, h.oko, h.hm.kept b, h.hq.kept b, h.hf.kept b, h.ho.kept b, h.hr.kept b, h.hb.trans (b.mono h.hb.size)⟩
theorem Gq.drew {w0 w : World} {m xo : Mt} {q : Rq} {f : Fc} {xr : Rp} (h : Gq w0 q f m xo xr w) : Gq w0 q f m xo xr w.drew := ⟨h.okf, h.ok, h.oko, h.hm, h.hq, h.hf, h.ho, h.hr, h.hb.drew⟩
theorem Gq.drewN {w0 w : World} {m xo : Mt} {q : Rq} {f : Fc} {xr : Rp} (h : Gq w0 q f m xo xr w) (n : Nat) : Gq w0 q f m xo xr (w.drewN n) := ⟨h.okf, h.ok, h.oko, h.hm, h.hq, h.hf, h.ho, h.hr, below_drewN h.hb _⟩
theorem Gq.set {w0 w w' : World} {m m' xo : Mt} {q : Rq} {f : Fc} {xr : Rp} (h : Gq w0 q f m xo xr w) (hk : m'.Ok) (hg : Has w' w0.heap.size 27 m'.cells) (on : Only (fun b => b = w0.heap.size) w w') : Gq w0 q f m' xo xr w' :=
  ⟨h.okf, hk, h.oko, hg, Has.only h.hq on (by omega), Has.only h.hf on (by omega), Has.only h.ho on (by omega), Has.only h.hr on (by omega), h.hb.trans (on.to_below h.hb.size (fun b e => by omega))⟩
theorem Gq.seto {w0 w w' : World} {m xo x' : Mt} {q : Rq} {f : Fc} {xr : Rp} (h : Gq w0 q f m xo xr w) (hk : x'.Ok) (hg : Has w' (w0.heap.size + 1 + 1 + 1) 27 x'.cells) (on : Only (fun b => b = w0.heap.size + 1 + 1 + 1) w w') : Gq w0 q f m x' xr w' :=
  ⟨h.okf, h.ok, hk, Has.only h.hm on (by omega), Has.only h.hq on (by omega), Has.only h.hf on (by omega), hg, Has.only h.hr on (by omega), h.hb.trans (on.to_below h.hb.size (fun b e => by omega))⟩
theorem Gq.setr {w0 w w' : World} {m xo : Mt} {q : Rq} {f : Fc} {xr r' : Rp} (h : Gq w0 q f m xo xr w) (hg : Has w' (w0.heap.size + 1 + 1 + 1 + 1) 36 r'.cells) (on : Only (fun b => b = w0.heap.size + 1 + 1 + 1 + 1) w w') : Gq w0 q f m xo r' w' :=
  ⟨h.okf, h.ok, h.oko, Has.only h.hm on (by omega), Has.only h.hq on (by omega), Has.only h.hf on (by omega), Has.only h.ho on (by omega), hg, h.hb.trans (on.to_below h.hb.size (fun b e => by omega))⟩
/-! What stays of 64 bits -/
theorem ok_act {m : Mt} {z : Int} (h : m.Ok) (hz : I64 z) : Mt.Ok { m with act := z } := ⟨h.h0, h.h1, h.com, hz, h.least, h.phase, h.gott, h.trials⟩
theorem ok_least {m : Mt} {z : Int} (h : m.Ok) (hz : I64 z) : Mt.Ok { m with least := z } := ⟨h.h0, h.h1, h.com, h.act, hz, h.phase, h.gott, h.trials⟩
theorem ok_phase {m : Mt} {z : Int} (h : m.Ok) (hz : I64 z) : Mt.Ok { m with phase := z } := ⟨h.h0, h.h1, h.com, h.act, h.least, hz, h.gott, h.trials⟩
theorem ok_gott {m : Mt} {z : Int} (h : m.Ok) (hz : I64 z) : Mt.Ok { m with gott := z } := ⟨h.h0, h.h1, h.com, h.act, h.least, h.phase, hz, h.trials⟩
theorem ok_trials {m : Mt} {z : Int} (h : m.Ok) (hz : I64 z) : Mt.Ok { m with trials := z } := ⟨h.h0, h.h1, h.com, h.act, h.least, h.phase, h.gott, hz⟩
theorem ok_com {m : Mt} {i : Im} (h : m.Ok) (hi : i.Ok) : Mt.Ok { m with com := i } := ⟨h.h0, h.h1, hi, h.act, h.least, h.phase, h.gott, h.trials⟩
theorem ok_h0 {m : Mt} {i : Im} (h : m.Ok) (hi : i.Ok) : Mt.Ok { m with h0 := i } := ⟨hi, h.h1, h.com, h.act, h.least, h.phase, h.gott, h.trials⟩
theorem ok_h1 {m : Mt} {i : Im} (h : m.Ok) (hi : i.Ok) : Mt.Ok { m with h1 := i } := ⟨h.h0, hi, h.com, h.act, h.least, h.phase, h.gott, h.trials⟩
theorem conf_i64 {m : Mt} (h : m.Ok) : I64 (confN m) := by
  unfold confN
  split
  · exact h.least
  · split
    · exact (oth_ok h).2.2.1
    · exact h.least
theorem ld4 {W : World} {g k : Nat} {x : Bool} (h : W.cell? ⟨g, k, none⟩ = some (.bool x)) : (Instr.loadAt 4 (.pointer (some ⟨g, k, none⟩))).run Tryd.prog W = .ok (.bool x) W := by
  go_simp
theorem ld28 {W : World} {g k : Nat} {A : Option Addr} {n c : Nat} (h : W.cell? ⟨g, k, none⟩ = some (.slice A n c)) : (Instr.loadAt 28 (.pointer (some ⟨g, k, none⟩))).run Tryd.prog W = .ok (.slice A n c) W := by
  go_simp
/-- A whole value stored, in a region that draws its order. -/
theorem step_row {w : World} {ops : Array Oper} {o : Oper} {a : Act} {K : Act → World → Prop} {Q : Exit → Act → World → Prop} {E : Prop} (hgd : o.guard = none) (ty : TypeId) (x y : Operand) (ho : o.op = .store ty x y)
    (g : Nat) (cells : Array Value) (hx : a.eval x = .pointer (some ⟨g, 0, none⟩)) (hy : a.eval y = .agg cells) (t : TypeId) (old : Array Value) (hg : Has w g t old) (hi : (Tryd.prog.info? ty).map (·.size) = some cells.size)
    (hold : old.size = cells.size) (h1 : cells.all (·.oneCell') = true)
    (h : ∀ w', Has w' g t cells → Only (fun b => b = g) w w' → K (a.put o.dst undef) w') : if Region.wanted o (yielded ops a.tmps) = true then Oper.wp Tryd.prog o a w K Q else E := by
  have hw : Region.wanted o (yielded ops a.tmps) = true := by simp [Region.wanted, hgd]
  rw [if_pos hw]
  exact wp_store_row ty x y ho g cells hx hy t old hg hi hold h1 (h _ (setRow_heap _ _ _ _ _ _ hg) ((Only.refl (fun b => b = g) w).setRow rfl _))
theorem step_st3 {w : World} {ops : Array Oper} {o : Oper} {a : Act} {K : Act → World → Prop} {Q : Exit → Act → World → Prop} {E : Prop} (hgd : o.guard = none) (x y : Operand) (ho : o.op = .store 3 x y)
    (g k : Nat) (z : Int) (hx : a.eval x = .pointer (some ⟨g, k, none⟩)) (hy : a.eval y = .int .i64 z) (m m' : Mt) (hg : Has w g 27 m.cells) (hk : k < 107) (hc : m.cells.setIfInBounds k (.int .i64 z) = m'.cells) (hm : m.Ok)
    (h : ∀ w', Has w' g 27 m'.cells → Only (fun b => b = g) w w' → K (a.put o.dst undef) w') : if Region.wanted o (yielded ops a.tmps) = true then Oper.wp Tryd.prog o a w K Q else E := by
  have hw : Region.wanted o (yielded ops a.tmps) = true := by simp [Region.wanted, hgd]
  rw [if_pos hw]
  have hs := mt_size hm
  obtain ⟨old, hold⟩ : ∃ old, w.cell? ⟨g, k, none⟩ = some old := by rw [hg.at k]; exact ⟨_, Array.getElem?_eq_getElem (by omega)⟩
  have hf := hg.soft k
  have hp := hg.put k (.int .i64 z)
  rw [hc] at hp
  have ex := h _ hp (only_set w ⟨g, k, none⟩ _)
  have e : (Instr.storeAt 3 (.pointer (some ⟨g, k, none⟩)) (.int .i64 z)).run Tryd.prog w = .ok () (w.setCell ⟨g, k, none⟩ (.int .i64 z)) := by
    go_simp
  unfold Oper.wp execOp
  simp only [ho, hx, hy, Sem.run_bind, e, Result.andThen_ok]
  exact ex
theorem step_st24 {w : World} {ops : Array Oper} {o : Oper} {a : Act} {K : Act → World → Prop} {Q : Exit → Act → World → Prop} {E : Prop} (hgd : o.guard = none) (x y : Operand) (ho : o.op = .store 24 x y)
    (g off : Nat) (i : Im) (hx : a.eval x = .pointer (some ⟨g, off, none⟩)) (hy : a.eval y = .agg i.cells) (m m' : Mt) (hm : m.Ok) (hi : i.Ok) (hg : Has w g 27 m.cells)
    (he : (m.cells.toList.take off ++ i.list ++ m.cells.toList.drop (off + i.list.length)).toArray = m'.cells) (hf : off + 34 ≤ 107)
    (h : ∀ w', Has w' g 27 m'.cells → Only (fun b => b = g) w w' → K (a.put o.dst undef) w') : if Region.wanted o (yielded ops a.tmps) = true then Oper.wp Tryd.prog o a w K Q else E := by
  have hw : Region.wanted o (yielded ops a.tmps) = true := by simp [Region.wanted, hgd]
  rw [if_pos hw]
  have hl := iml_len hi
  have hst := run_storeCells_at (P := Tryd.prog) g off 27 i.list 0 m.cells w hg (by rw [mt_size hm, hl]; omega) (iml_one i)
  rw [Nat.add_zero, he] at hst
  obtain ⟨q, hq, hsz⟩ := Option.map_eq_some_iff.1 size24n
  have hv : (storeVar 24 ⟨g, off, none⟩ (.agg i.cells)).run Tryd.prog w = .ok () (w.setRow g m'.cells) := by
    have h8 : i.cells.size = 34 := im_size hi
    have h9 : i.cells.toList = i.list := rfl
    simp [storeVar, sizeOf, typeInfo, hq, hsz, Value.cells, h8, h9, hst]
  unfold Oper.wp execOp
  simp only [ho, hx, hy, Instr.storeAt, Instr.sureAddr, Sem.run_bind, Sem.run_pure, Result.andThen_ok, hv]
  exact h _ (setRow_heap _ _ _ _ _ _ hg) ((Only.refl (fun b => b = g) w).setRow rfl _)
theorem yields_build {ops : Array Oper} {S : World → Prop} {o : Oper} {a : Act} (hw : Region.wanted o (yielded ops a.tmps) = true) (t : TypeId) (parts : Array (Nat × Operand)) (ho : o.op = .build t parts)
    (cells : Array Value) (hb : Tryd.prog.built t (parts.map fun (i, x) => (i, a.eval x)).toList = some cells) : YieldsIf Tryd.prog ops S o (.agg cells) a :=
  Or.inl ⟨hw, fun W hW => by
    unfold execOp
    simp only [ho, Sem.run_bind, run_build W t _ cells hb, Result.andThen_ok]
    rfl⟩
theorem step_ld {w : World} {ops : Array Oper} {o : Oper} {a : Act} {K : Act → World → Prop} {Q : Exit → Act → World → Prop} {E : Prop} (ty : TypeId) (x : Operand) (ho : o.op = .load ty x) (p v : Value) (hr : (Instr.loadAt ty p).run Tryd.prog w = .ok v w) (hx : a.eval x = p) (hw : Region.wanted o (yielded ops a.tmps) = true)
    (h : K (a.put o.dst v) w) : if Region.wanted o (yielded ops a.tmps) = true then Oper.wp Tryd.prog o a w K Q else E := by
  rw [if_pos hw]
  unfold Oper.wp execOp
  simp only [ho, hx, Sem.run_bind, hr, Result.andThen_ok]
  exact h
end Go.Proofs.YtcokpdhhpaahgaaDoor

namespace Go.Proofs.YtcokpdhhpaahgaaDoor
open Go.RowKit
set_option linter.unusedVariables false
set_option linter.unusedSimpArgs false

theorem over0 (h0 h1 c : Im) (l p g t : Int) : (Mt.over ⟨0, h0, h1, l, p, c, g, t⟩) = ⟨0, h0, zeroI, l, 0, c, g, 0⟩ := rfl
theorem over1 (h0 h1 c : Im) (l p g t : Int) : (Mt.over ⟨1, h0, h1, l, p, c, g, t⟩) = ⟨1, zeroI, h1, l, 0, c, g, 0⟩ := rfl
theorem not_one_zero : ¬ (1 : Int) = 0 := by decide
/-- What lies in memory while a trial is given up. -/
structure Hq (w0 : World) (m xo : Mt) (w : World) : Prop where
  ok : m.Ok
  oko : xo.Ok
  hm : Has w w0.heap.size 27 m.cells
  ho : Has w (w0.heap.size + 1) 27 xo.cells
  hb : Below w0.heap.size w0 w
theorem Hq.kept {w0 w w' : World} {m xo : Mt} (h : Hq w0 m xo w) (b : Below w.heap.size w w') : Hq w0 m xo w' := ⟨h.ok, h.oko, h.hm.kept b, h.ho.kept b, h.hb.trans (b.mono h.hb.size)⟩
theorem Hq.set {w0 w w' : World} {m m' xo : Mt} (h : Hq w0 m xo w) (hk : m'.Ok) (hg : Has w' w0.heap.size 27 m'.cells) (on : Only (fun b => b = w0.heap.size) w w') : Hq w0 m' xo w' :=
  ⟨hk, h.oko, hg, Has.only h.ho on (by omega), h.hb.trans (on.to_below h.hb.size (fun b e => by omega))⟩
theorem Hq.seto {w0 w w' : World} {m xo x' : Mt} (h : Hq w0 m xo w) (hk : x'.Ok) (hg : Has w' (w0.heap.size + 1) 27 x'.cells) (on : Only (fun b => b = w0.heap.size + 1) w w') : Hq w0 m x' w' :=
  ⟨h.ok, hk, Has.only h.hm on (by omega), hg, h.hb.trans (on.to_below h.hb.size (fun b e => by omega))⟩
theorem hq_new {m : Mt} (w : World) (hm : m.Ok) : Hq w m zeroT ((w.alloc (.cells m.cells 27)).alloc (.cells zeroT.cells 27)) :=
  ⟨hm, zeroT_ok, (has_new w 27 m.cells).more _, has_new' _ 27 zeroT.cells _ (by simp), ((Below.refl _ _).alloc (Nat.le_refl _) _).alloc (by simp) _⟩
set_option maxRecDepth 100000 in
set_option maxHeartbeats 4000000 in
theorem over_any (m : Mt) (w : World) (hm : m.Ok) (ha : m.act = 0 ∨ m.act = 1) : Calls Tryd.prog 44 #[.agg m.cells] w fun e w' => e = .returned (.agg m.over.cells) ∧ Below w.heap.size w w' := by
  have hz27 := zero27_run
  obtain ⟨act, h0, h1, least, phase, com, gott, trials⟩ := m
  simp only at ha
  rcases ha with rfl | rfl
  · have G := Lib.hid (hq_new w hm)
    clear hm
    rw [over0]
    go_enter Tryd.func44, Tryd.ntmps44
    go_wp2_with (first
      | (refine wpList_ld 27 _ rfl _ _ (ld27 G.out.hm G.out.ok) rfl rfl ?_)
      | (refine wpList_st3 rfl _ _ rfl w.heap.size 70 _ rfl rfl _ _ G.out.hm (by omega) (mt_set70 _ G.out.ok) G.out.ok ?_; intro w1 hs on; replace G := Lib.hid (G.out.set (ok_phase G.out.ok i64_zero) hs on); clear hs on)
      | (refine wpList_st3 rfl _ _ rfl w.heap.size 106 _ rfl rfl _ _ G.out.hm (by omega) (mt_set106 _ G.out.ok) G.out.ok ?_; intro w1 hs on; replace G := Lib.hid (G.out.set (ok_trials G.out.ok i64_zero) hs on); clear hs on)
      | (go_at_call 42; (with_reducible refine (other_any _ 1 _ G.out.ok rfl (.inl rfl)).mono ?_); rintro e w1 ⟨rfl, b1⟩; replace G := Lib.hid (G.out.kept b1); clear b1)
      | (refine wpList_build_to rfl 24 _ rfl _ built24 ?_)
      | (refine wpList_st24 rfl _ _ rfl w.heap.size 35 _ rfl rfl _ _ G.out.ok zeroI_ok G.out.hm (mt_put1 _ G.out.ok zeroI_ok) (by omega) ?_; intro w1 hs on; replace G := Lib.hid (G.out.set (ok_h1 G.out.ok zeroI_ok) hs on); clear hs on)
      | (refine wpList_row rfl 27 _ _ rfl (w.heap.size + 1) _ rfl rfl 27 _ G.out.ho (size27 G.out.ok) (old27 G.out.oko G.out.ok) (mt_all _) ?_; intro w1 hs on; replace G := Lib.hid (G.out.seto G.out.ok hs on); clear hs on))
    exact bodyPost_ret (results_cell_row rfl _ _ _ 27 _ (0, 0) _ rfl G.out.ho Tryd.underlying27 rfl (size27 G.out.oko)) rfl ⟨rfl, G.out.hb⟩
  · have G := Lib.hid (hq_new w hm)
    clear hm
    rw [over1]
    go_enter Tryd.func44, Tryd.ntmps44
    go_wp2_with (first
      | (refine wpList_ld 27 _ rfl _ _ (ld27 G.out.hm G.out.ok) rfl rfl ?_)
      | (refine wpList_st3 rfl _ _ rfl w.heap.size 70 _ rfl rfl _ _ G.out.hm (by omega) (mt_set70 _ G.out.ok) G.out.ok ?_; intro w1 hs on; replace G := Lib.hid (G.out.set (ok_phase G.out.ok i64_zero) hs on); clear hs on)
      | (refine wpList_st3 rfl _ _ rfl w.heap.size 106 _ rfl rfl _ _ G.out.hm (by omega) (mt_set106 _ G.out.ok) G.out.ok ?_; intro w1 hs on; replace G := Lib.hid (G.out.set (ok_trials G.out.ok i64_zero) hs on); clear hs on)
      | (go_at_call 42; (with_reducible refine (other_any _ 0 _ G.out.ok rfl (.inr rfl)).mono ?_); rintro e w1 ⟨rfl, b1⟩; replace G := Lib.hid (G.out.kept b1); clear b1)
      | (refine wpList_build_to rfl 24 _ rfl _ built24 ?_)
      | (refine wpList_st24 rfl _ _ rfl w.heap.size 1 _ rfl rfl _ _ G.out.ok zeroI_ok G.out.hm (mt_put0 _ G.out.ok zeroI_ok) (by omega) ?_; intro w1 hs on; replace G := Lib.hid (G.out.set (ok_h0 G.out.ok zeroI_ok) hs on); clear hs on)
      | (refine wpList_row rfl 27 _ _ rfl (w.heap.size + 1) _ rfl rfl 27 _ G.out.ho (size27 G.out.ok) (old27 G.out.oko G.out.ok) (mt_all _) ?_; intro w1 hs on; replace G := Lib.hid (G.out.seto G.out.ok hs on); clear hs on))
    exact bodyPost_ret (results_cell_row rfl _ _ _ 27 _ (0, 0) _ rfl G.out.ho Tryd.underlying27 rfl (size27 G.out.oko)) rfl ⟨rfl, G.out.hb⟩
set_option maxRecDepth 100000 in
set_option maxHeartbeats 4000000 in
theorem roll_any (m : Mt) (f : Fc) (w : World) (hm : m.Ok) (hf : f.Ok) (ha : m.act = 0 ∨ m.act = 1) : Calls Tryd.prog 27 #[.agg m.cells, .agg f.cells] w (Does (rollM m f) w) := by
  have hz27 := zero27_run
  have hz36 := zero36_run
  have HO := Lib.hid (fun W => over_any m W hm ha)
  have HV := Lib.hid (over_ok hm)
  clear ha
  obtain ⟨act, h0, h1, least, phase, com, gott, trials⟩ := m
  obtain ⟨nm, tg, dg, wn⟩ := f
  have G := Lib.hid (fq_new w hm hf)
  clear hm hf
  by_cases hp : phase = 3
  · subst hp
    cases wn with
    | true =>
      go_enter Tryd.func27, Tryd.ntmps27
      go_wp2_with (first
        | (refine wpList_ld 27 _ rfl _ _ (ld27 G.out.hm G.out.ok) rfl rfl ?_)
        | (refine wpList_ld 3 _ rfl _ _ (ld3 (seen_of G.out.hm G.out.ok).phase) rfl rfl ?_)
        | (refine wpList_ld 4 _ rfl _ _ (ld4 (seen_f G.out.hf G.out.okf).worn) rfl rfl ?_)
        | (go_at_call 20; (with_reducible refine (refuse_any _ _ _ G.out.ok).mono ?_); rintro e w1 ⟨rfl, b1⟩; replace G := Lib.hid (G.out.kept b1); clear b1)
        | (refine wpList_row rfl 27 _ _ rfl (w.heap.size + 1 + 1) _ rfl rfl 27 _ G.out.ho (size27 G.out.ok) (old27 G.out.oko G.out.ok) (mt_all _) ?_; intro w1 hs on; replace G := Lib.hid (G.out.seto G.out.ok hs on); clear hs on)
        | (refine wpList_row rfl 36 _ _ rfl (w.heap.size + 1 + 1 + 1) _ rfl rfl 36 _ G.out.hr (size36 _) rfl (rp_all _) ?_; intro w1 hs on; replace G := Lib.hid (G.out.setr hs on); clear hs on))
      exact out_ret (p := 4) (u := 5) rfl _ _ _ _ _ _ _ _ (by unfold rollM; rw [if_neg (not_not_intro rfl), if_pos rfl]; rfl) rfl rfl rfl (Out.mk G.out.ho G.out.hr G.out.hb) G.out.oko
    | false =>
      go_enter Tryd.func27, Tryd.ntmps27
      go_wp2_with (first
        | (refine wpList_ld 27 _ rfl _ _ (ld27 G.out.hm G.out.ok) rfl rfl ?_)
        | (refine wpList_ld 3 _ rfl _ _ (ld3 (seen_of G.out.hm G.out.ok).phase) rfl rfl ?_)
        | (refine wpList_ld 4 _ rfl _ _ (ld4 (seen_f G.out.hf G.out.okf).worn) rfl rfl ?_)
        | (go_at_call 44; (with_reducible refine (HO.out _).mono ?_); rintro e w1 ⟨rfl, b1⟩; replace G := Lib.hid (G.out.kept b1); clear b1)
        | (refine wpList_build_to rfl 36 _ rfl _ built36 ?_)
        | (refine wpList_row rfl 27 _ _ rfl (w.heap.size + 1 + 1) _ rfl rfl 27 _ G.out.ho (size27 HV.out) (old27 G.out.oko HV.out) (mt_all _) ?_; intro w1 hs on; replace G := Lib.hid (G.out.seto HV.out hs on); clear hs on)
        | (refine wpList_row rfl 36 _ _ rfl (w.heap.size + 1 + 1 + 1) _ rfl rfl 36 _ G.out.hr (size36 _) rfl (rp_all _) ?_; intro w1 hs on; replace G := Lib.hid (G.out.setr hs on); clear hs on))
      exact out_ret (p := 4) (u := 5) rfl _ _ _ _ _ _ _ _ (by unfold rollM; rw [if_neg (not_not_intro rfl), if_neg Bool.false_ne_true]; rfl) rfl rfl rfl (Out.mk G.out.ho G.out.hr G.out.hb) G.out.oko
  · have HP := Lib.hid hp
    go_enter Tryd.func27, Tryd.ntmps27
    go_wp2_with (first
      | (refine wpList_ld 27 _ rfl _ _ (ld27 G.out.hm G.out.ok) rfl rfl ?_)
      | (refine wpList_ld 3 _ rfl _ _ (ld3 (seen_of G.out.hm G.out.ok).phase) rfl rfl ?_)
      | (refine wpList_ld 4 _ rfl _ _ (ld4 (seen_f G.out.hf G.out.okf).worn) rfl rfl ?_)
      | (go_at_call 20; (with_reducible refine (refuse_any _ _ _ G.out.ok).mono ?_); rintro e w1 ⟨rfl, b1⟩; replace G := Lib.hid (G.out.kept b1); clear b1)
      | (refine wpList_row rfl 27 _ _ rfl (w.heap.size + 1 + 1) _ rfl rfl 27 _ G.out.ho (size27 G.out.ok) (old27 G.out.oko G.out.ok) (mt_all _) ?_; intro w1 hs on; replace G := Lib.hid (G.out.seto G.out.ok hs on); clear hs on)
      | (refine wpList_row rfl 36 _ _ rfl (w.heap.size + 1 + 1 + 1) _ rfl rfl 36 _ G.out.hr (size36 _) rfl (rp_all _) ?_; intro w1 hs on; replace G := Lib.hid (G.out.setr hs on); clear hs on))
    exact out_ret (p := 4) (u := 5) rfl _ _ _ _ _ _ _ _ (by unfold rollM; rw [if_pos HP.out]; rfl) rfl rfl rfl (Out.mk G.out.ho G.out.hr G.out.hb) G.out.oko
set_option maxRecDepth 100000 in
set_option maxHeartbeats 4000000 in
theorem abort_any (m : Mt) (f : Fc) (w : World) (hm : m.Ok) (hf : f.Ok) : Calls Tryd.prog 28 #[.agg m.cells, .agg f.cells] w (Does (abortM m f) w) := by
  have hz27 := zero27_run
  have hz36 := zero36_run
  obtain ⟨act, h0, h1, least, phase, com, gott, trials⟩ := m
  obtain ⟨nm, tg, dg, wn⟩ := f
  have G := Lib.hid (fq_new w hm hf)
  clear hm hf
  by_cases hp : phase = 0
  · subst hp
    go_enter Tryd.func28, Tryd.ntmps28
    go_wp2_with (first
      | (refine wpList_ld 27 _ rfl _ _ (ld27 G.out.hm G.out.ok) rfl rfl ?_)
      | (refine wpList_ld 3 _ rfl _ _ (ld3 (seen_of G.out.hm G.out.ok).phase) rfl rfl ?_)
      | (refine wpList_ld 4 _ rfl _ _ (ld4 (seen_f G.out.hf G.out.okf).worn) rfl rfl ?_)
      | (go_at_call 20; (with_reducible refine (refuse_any _ _ _ G.out.ok).mono ?_); rintro e w1 ⟨rfl, b1⟩; replace G := Lib.hid (G.out.kept b1); clear b1)
      | (refine wpList_row rfl 27 _ _ rfl (w.heap.size + 1 + 1) _ rfl rfl 27 _ G.out.ho (size27 G.out.ok) (old27 G.out.oko G.out.ok) (mt_all _) ?_; intro w1 hs on; replace G := Lib.hid (G.out.seto G.out.ok hs on); clear hs on)
      | (refine wpList_row rfl 36 _ _ rfl (w.heap.size + 1 + 1 + 1) _ rfl rfl 36 _ G.out.hr (size36 _) rfl (rp_all _) ?_; intro w1 hs on; replace G := Lib.hid (G.out.setr hs on); clear hs on))
    exact out_ret (p := 4) (u := 5) rfl _ _ _ _ _ _ _ _ (by unfold abortM; rw [if_pos (.inl rfl)]; rfl) rfl rfl rfl (Out.mk G.out.ho G.out.hr G.out.hb) G.out.oko
  by_cases hq : phase = 3
  · subst hq
    go_enter Tryd.func28, Tryd.ntmps28
    go_wp2_with (first
      | (refine wpList_ld 27 _ rfl _ _ (ld27 G.out.hm G.out.ok) rfl rfl ?_)
      | (refine wpList_ld 3 _ rfl _ _ (ld3 (seen_of G.out.hm G.out.ok).phase) rfl rfl ?_)
      | (refine wpList_ld 4 _ rfl _ _ (ld4 (seen_f G.out.hf G.out.okf).worn) rfl rfl ?_)
      | (go_at_call 20; (with_reducible refine (refuse_any _ _ _ G.out.ok).mono ?_); rintro e w1 ⟨rfl, b1⟩; replace G := Lib.hid (G.out.kept b1); clear b1)
      | (refine wpList_row rfl 27 _ _ rfl (w.heap.size + 1 + 1) _ rfl rfl 27 _ G.out.ho (size27 G.out.ok) (old27 G.out.oko G.out.ok) (mt_all _) ?_; intro w1 hs on; replace G := Lib.hid (G.out.seto G.out.ok hs on); clear hs on)
      | (refine wpList_row rfl 36 _ _ rfl (w.heap.size + 1 + 1 + 1) _ rfl rfl 36 _ G.out.hr (size36 _) rfl (rp_all _) ?_; intro w1 hs on; replace G := Lib.hid (G.out.setr hs on); clear hs on))
    exact out_ret (p := 4) (u := 5) rfl _ _ _ _ _ _ _ _ (by unfold abortM; rw [if_pos (.inr rfl)]; rfl) rfl rfl rfl (Out.mk G.out.ho G.out.hr G.out.hb) G.out.oko
  have d0 : (phase == 0) = false := by simp [hp]
  have d3 : (phase == 3) = false := by simp [hq]
  have HN := Lib.hid (show ¬ (phase = 0 ∨ phase = 3) from fun h => h.elim hp hq)
  cases wn with
  | true =>
    go_enter Tryd.func28, Tryd.ntmps28
    go_wp2_with (first
      | (refine wpList_ld 27 _ rfl _ _ (ld27 G.out.hm G.out.ok) rfl rfl ?_)
      | (refine wpList_ld 3 _ rfl _ _ (ld3 (seen_of G.out.hm G.out.ok).phase) rfl rfl ?_)
      | (refine wpList_ld 4 _ rfl _ _ (ld4 (seen_f G.out.hf G.out.okf).worn) rfl rfl ?_)
      | (go_at_call 20; (with_reducible refine (refuse_any _ _ _ G.out.ok).mono ?_); rintro e w1 ⟨rfl, b1⟩; replace G := Lib.hid (G.out.kept b1); clear b1)
      | (refine wpList_row rfl 27 _ _ rfl (w.heap.size + 1 + 1) _ rfl rfl 27 _ G.out.ho (size27 G.out.ok) (old27 G.out.oko G.out.ok) (mt_all _) ?_; intro w1 hs on; replace G := Lib.hid (G.out.seto G.out.ok hs on); clear hs on)
      | (refine wpList_row rfl 36 _ _ rfl (w.heap.size + 1 + 1 + 1) _ rfl rfl 36 _ G.out.hr (size36 _) rfl (rp_all _) ?_; intro w1 hs on; replace G := Lib.hid (G.out.setr hs on); clear hs on))
    exact out_ret (p := 4) (u := 5) rfl _ _ _ _ _ _ _ _ (by unfold abortM; rw [if_neg HN.out, if_pos rfl]; rfl) rfl rfl rfl (Out.mk G.out.ho G.out.hr G.out.hb) G.out.oko
  | false =>
    go_enter Tryd.func28, Tryd.ntmps28
    go_wp2_with (first
      | (refine wpList_ld 27 _ rfl _ _ (ld27 G.out.hm G.out.ok) rfl rfl ?_)
      | (refine wpList_ld 3 _ rfl _ _ (ld3 (seen_of G.out.hm G.out.ok).phase) rfl rfl ?_)
      | (refine wpList_ld 4 _ rfl _ _ (ld4 (seen_f G.out.hf G.out.okf).worn) rfl rfl ?_)
      | (refine wpList_build_to rfl 24 _ rfl _ built24 ?_)
      | (refine wpList_build_to rfl 36 _ rfl _ built36 ?_)
      | (refine wpList_st3 rfl _ _ rfl w.heap.size 70 _ rfl rfl _ _ G.out.hm (by omega) (mt_set70 _ G.out.ok) G.out.ok ?_; intro w1 hs on; replace G := Lib.hid (G.out.set (ok_phase G.out.ok i64_zero) hs on); clear hs on)
      | (refine wpList_st24 rfl _ _ rfl w.heap.size 71 _ rfl rfl _ _ G.out.ok zeroI_ok G.out.hm (mt_put2 _ G.out.ok zeroI_ok) (by omega) ?_; intro w1 hs on; replace G := Lib.hid (G.out.set (ok_com G.out.ok zeroI_ok) hs on); clear hs on)
      | (refine wpList_st3 rfl _ _ rfl w.heap.size 105 _ rfl rfl _ _ G.out.hm (by omega) (mt_set105 _ G.out.ok) G.out.ok ?_; intro w1 hs on; replace G := Lib.hid (G.out.set (ok_gott G.out.ok i64_zero) hs on); clear hs on)
      | (refine wpList_row rfl 27 _ _ rfl (w.heap.size + 1 + 1) _ rfl rfl 27 _ G.out.ho (size27 G.out.ok) (old27 G.out.oko G.out.ok) (mt_all _) ?_; intro w1 hs on; replace G := Lib.hid (G.out.seto G.out.ok hs on); clear hs on)
      | (refine wpList_row rfl 36 _ _ rfl (w.heap.size + 1 + 1 + 1) _ rfl rfl 36 _ G.out.hr (size36 _) rfl (rp_all _) ?_; intro w1 hs on; replace G := Lib.hid (G.out.setr hs on); clear hs on))
    exact out_ret (p := 4) (u := 5) rfl _ _ _ _ _ _ _ _ (by unfold abortM; rw [if_neg HN.out, if_neg Bool.false_ne_true]; rfl) rfl rfl rfl (Out.mk G.out.ho G.out.hr G.out.hb) G.out.oko
end Go.Proofs.YtcokpdhhpaahgaaDoor
