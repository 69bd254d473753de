/-
  What the law RingKeeps needs beside: rows of rows that come in, a row made longer by bytes 0, Cut and Power of a ring's flash; conditions: as each states.
-/
import Derived.Test.YtcecommnpdfhgaaRgA
import Derived.Test.YtcecommnpdfhgaaCut
import Derived.Lib.AppendZerosOnto
import Derived.Deep.RegionHeld3
namespace Go.Proofs.Ytcecommnpdfhgaa
open Go.RowKit
set_option linter.unusedVariables false
set_option linter.unusedSimpArgs false

def Parts (w : World) (a : Option Addr) (len : Nat) (A : Nat → Option Addr) (L C : Nat → Nat) (Z : Nat → List Int) : Prop :=
  len = 0 ∨ ∃ b off, a = some ⟨b, off, none⟩ ∧ b < w.heap.size ∧ ∀ r, r < len → w.cell? ⟨b, off + r, none⟩ = some (.slice (A r) (L r) (C r)) ∧ L r ≤ C r ∧ Row w (A r) (L r) (Z r)
def Nums (w : World) (a : Option Addr) (len : Nat) (B : Nat → Int) : Prop :=
  len = 0 ∨ ∃ b off, a = some ⟨b, off, none⟩ ∧ b < w.heap.size ∧ ∀ r, r < len → w.cell? ⟨b, off + r, none⟩ = some (.int .i64 (B r))
theorem zero_cells (k : Nat) : Builtin.zeroCells (Value.int .u8 0).cells k = (nums (List.replicate k 0)).toArray := by
  apply Array.ext
  · simp [Builtin.zeroCells, nums, Value.cells]
  · intro i h1 h2
    simp [Builtin.zeroCells, nums, Value.cells, Nat.mod_one]
theorem byt_zeros (k : Nat) : Byt (List.replicate k 0) := byt_same k 0 (by omega)
/-- append(out, make([]byte, k)...) -/
theorem runs_zeros (w : World) (base : Nat) (ty : TypeId) (v : Value) (n : Nat) (xs : List Int) (hown : Own w base v n xs) (k : Nat) (h63 : n + k ≤ 1000000) (hbase : base ≤ w.heap.size) :
    ∃ v' w', (Builtin.append_ #[31, 3] ty #[v, .int .i64 (k : Int)]).run Try.prog w = .ok v' w' ∧ Own w' base v' (n + k) (xs ++ List.replicate k 0) ∧ w.grownBy w' v.ownBlock := by
  obtain ⟨i, hi, hz0, hz1, hz2⟩ := info_parts info5
  have hw : IntKind.i64.wrap (k : Int) = k := by rw [IntKind.wrap_i64]; omega
  have hneg : ¬ ((k : Int) < 0) := by omega
  have h48i : ¬ (281474976710656 < (k : Int)) := by omega
  have hlen := hown.len
  by_cases hk : k = 0
  · subst hk
    refine ⟨v, w, ?_, by simpa using hown, ⟨rfl, rfl, rfl, Nat.le_refl _, fun _ _ _ => rfl⟩⟩
    rcases hown.1.2 with ⟨rfl, rfl⟩ | ⟨g, cap, cur, rfl, _, _, hnc, _⟩
    · simp [Builtin.append_, run_underlying Try.underlying31, run_underlying Try.underlying3, sizeOf, typeInfo, hi, asInt, asIntOf, IntKind.wrap_i64]
    · simp [Builtin.append_, run_underlying Try.underlying31, run_underlying Try.underlying3, sizeOf, typeInfo, hi, asInt, asIntOf, IntKind.wrap_i64, hnc, storeCells]
  have hk0 : 0 < k := by omega
  rcases hown.1.2 with ⟨rfl, rfl⟩ | ⟨g, cap, cur, rfl, hbg, hg, hnc, hcm, hcs, htake⟩
  · obtain rfl : xs = [] := List.eq_nil_of_length_eq_zero (by omega)
    have hr := Lib.run_append_nil_zeros (P := Try.prog) w 31 3 ty 5 i (.int .u8 0) .i64 .i64 Try.underlying31 Try.underlying3 hi hz0 k hk0 (by omega) (by omega) (by rw [hz2]; omega)
    refine ⟨_, _, hr, ?_, ⟨rfl, rfl, rfl, by simp, fun j hj _ => Below.heap_alloc w.drew _ j hj⟩⟩
    have hge := grownCap_ge w k 0 5
    have hcm : grownCap w k 0 5 ≤ maxLen := grownCap_le_maxLen w k 0 5 (by unfold maxLen; omega)
    rw [zero_cells, zero_cells, Nat.zero_add, List.nil_append]
    refine ⟨⟨by simp [nums], .inr ⟨w.heap.size, _, _, rfl, hbase, heap_alloc_new w.drew _, hge, hcm, ?_, ?_⟩⟩, byt_zeros k⟩
    · simp [nums]; omega
    · simp [nums]
  · have hcs' : cur.size = cap := by simpa using hcs
    have ht' : cur.toList.take n = nums xs := by simpa using htake
    by_cases hroom : n + k ≤ cap
    · have hst := run_storeCells_at (P := Try.prog) g n 5 (nums (List.replicate k 0)) 0 cur w hg (by simp [nums]; omega) (fun u hu => nums_one _ u hu)
      simp only [Nat.add_zero] at hst
      obtain ⟨cs, hcs2⟩ : ∃ cs : Array Value, cs = (cur.toList.take n ++ nums (List.replicate k 0) ++ cur.toList.drop (n + (nums (List.replicate k 0)).length)).toArray := ⟨_, rfl⟩
      rw [← hcs2] at hst
      refine ⟨.slice (some ⟨g, 0, none⟩) (n + k) cap, w.setRow g cs, ?_, ⟨⟨by simp [nums]; omega, .inr ⟨g, cap, cs, rfl, hbg, setRow_heap w g cur cs 5 _ hg, hroom, hcm, ?_, ?_⟩⟩, byt_app hown.2 (byt_zeros k)⟩, ?_⟩
      · simp [Builtin.append_, run_underlying Try.underlying31, run_underlying Try.underlying3, sizeOf, typeInfo, hi, asInt, asIntOf, hw, hneg, hz0, hz1, hz2, h48i, hroom, hk, zeroValue, zero_cells, Addr.add_lit, hst]
      · rw [hcs2]; simp [nums]; omega
      · rw [hcs2, ht', nums_app, Nat.mul_one]
        have : (nums (xs ++ List.replicate k 0)).length = n + k := by rw [nums_len]; simp; omega
        rw [← this]
        exact List.take_left
      · exact ⟨rfl, rfl, rfl, by simp, fun q _ hq => setRow_other w g q _ (fun e => hq (by simp [Value.ownBlock, e]))⟩
    · have hold : (Builtin.firstCells i.size n (.slice (some ⟨g, 0, none⟩) n cap)).run Try.prog w.drew = .ok (nums xs).toArray w.drew :=
        run_firstCells_some w.drew i.size n ⟨g, 0, none⟩ n cap (nums xs) (by rw [nums_len, hz1]; omega) (hown.1.cells (g := g) rfl)
      have hr := Lib.run_append_grow_zeros (P := Try.prog) w 31 3 ty 5 i (.int .u8 0) .i64 .i64 Try.underlying31 Try.underlying3 hi hz0 (some ⟨g, 0, none⟩) n cap (nums xs) hold k hk0 (by omega) (by omega) (by omega) (by rw [hz2]; omega) (growslice_fits (by omega) (by rw [hz2]; omega))
      refine ⟨_, _, hr, ?_, ⟨rfl, rfl, rfl, by simp, fun j hj _ => Below.heap_alloc w.drew _ j hj⟩⟩
      have hge := grownCap_ge w (n + k) cap 5
      have hcm' : grownCap w (n + k) cap 5 ≤ maxLen := grownCap_le_maxLen w (n + k) cap 5 (by unfold maxLen; omega)
      rw [zero_cells, zero_cells]
      refine ⟨⟨by simp [nums]; omega, .inr ⟨w.heap.size, _, _, rfl, hbase, heap_alloc_new w.drew _, hge, hcm', ?_, ?_⟩⟩, byt_app hown.2 (byt_zeros k)⟩
      · simp [nums]; omega
      · have : (nums (xs ++ List.replicate k 0)).length = (n + k) * 1 := by rw [nums_len]; simp; omega
        simp only [Array.toList_append, List.append_assoc]
        rw [← List.append_assoc, nums_app, ← this]
        exact List.take_left
theorem step_zeros {w : World} {ops : Array Oper} {o : Oper} {a : Act} {K : Act → World → Prop} {Q : Exit → Act → World → Prop} {E : Prop} (hw : Region.wanted o (yielded ops a.tmps) = true) (s x : Operand)
    (ho : o.op = .call { callee := .builtin .append, args := #[s, x], argTypes := #[31, 3] }) (t : TypeId) (hty : o.type = t) (v u v' : Value) (hs : a.eval s = v) (hx : a.eval x = u) {w' : World}
    (hrun : (Builtin.append_ #[31, 3] t #[v, u]).run Try.prog w = .ok v' w') (h : K (a.put o.dst v') w') :
    if Region.wanted o (yielded ops a.tmps) = true then Oper.wp Try.prog o a w K Q else E := by
  rw [if_pos hw]
  unfold Oper.wp execOp
  simp only [ho, hty, resolve, invoke, builtin, Sem.run_bind, Sem.run_pure, Result.andThen_ok, List.map_toArray, List.map_cons, List.map_nil, hs, hx, hrun]
  exact h
theorem raw_is {zs : List Int} (h : zs.length ≤ 156) : rawL zs 156 = zs ++ List.replicate (156 - zs.length) 0 := by
  unfold rawL
  rw [List.take_of_length_le h]
theorem raw_all : rawL (List.replicate 156 0) 156 = List.replicate 156 0 := by
  rw [raw_is (by simp)]
  simp
/-- What Cut leaves. -/
def CutTo (w0 : World) (T x g m k : Nat) (S' : Fs) (P : Pt) (w : World) (e : Ending) (w' : World) : Prop := e = .returned (.tuple #[]) ∧ Rg w0 w' T x g m k S' P ∧ Only (In3 g m k) w w'
theorem rg_cut {w0 w : World} {T x g m k : Nat} {S : Fs} {P : Pt} (h : Rg w0 w T x g m k S P) (q : Int) (hq : I64 q) {A : Option Addr} {n z : Nat} {zs : List Int} (hr : Row w A n zs) (hz : n ≤ z) (hn : n ≤ 100000) (hT : T ≤ w.heap.size) :
    Calls Try.prog 11 #[.pointer (some ⟨g, 0, none⟩), .int .i64 q, .slice A n z] w (CutTo w0 T x g m k (cutAt S (max q 0).toNat (zs.take S.mem.length)) P w) :=
  (cut_any q A n z zs w hq h.fl hr hz hn hT).mono fun e w' ⟨he, t⟩ => ⟨he, h.to t rfl h.few, t.2⟩
theorem rg_power {w0 w : World} {T x g m k : Nat} {S : Fs} {P : Pt} (h : Rg w0 w T x g m k S P) : Calls Try.prog 12 #[.pointer (some ⟨g, 0, none⟩)] w (CutTo w0 T x g m k (power S) P w) :=
  (power_any w h.fl).mono fun e w' ⟨he, t⟩ => ⟨he, h.to t rfl h.few, t.2⟩
theorem i64_bits (x y : Int) : I64 (bits .and .i64 x y) := bounds_i64 (wf_bits .and .i64 x y)
/-- A row that came in, behind calls on a flash of the law's own. -/
theorem row_came {w0 w : World} {A : Option Addr} {n : Nat} {zs : List Int} (h : Row w0 A n zs) (b : Below w0.heap.size w0 w) : Row w A n zs := row_below b h
end Go.Proofs.Ytcecommnpdfhgaa
