/-
  Words on memory: a block that is known whole, a row of configs or of parts, what is read of one, append, two parts compared; conditions: as each states.
-/
import Derived.Test.YtljkngalnoepmaaMp
import Derived.Test.YtljkngalnoepmaaNaCount
import Derived.Laws.Rows
import Derived.Below
import Derived.Deep.Draws
import Derived.Laws.CopyOwn
import Derived.Maps.AppendAt
import Derived.OwnWalk
import Derived.OpenShut
import Derived.Laws.StructEq
import Derived.Laws.CopyRow
import Derived.Deep.MidRow
import Derived.Deep.WholeRow
namespace Go.Proofs.Ytljkngalnoepmaa
open Go.RowKit
set_option linter.unusedVariables false
set_option linter.unusedSimpArgs false

theorem ret_int {k : IntKind} {a b : Int} (h : a = b) : Ending.returned (.int k a) = .returned (.int k b) := by rw [h]
theorem ret_bool {a b : Bool} (h : a = b) : Ending.returned (.bool a) = .returned (.bool b) := by rw [h]
theorem ret_val {a b : Value} (h : a = b) : Ending.returned a = .returned b := by rw [h]
theorem belowThen {B : Nat} {w w1 w2 : World} (h : Below B w w1) (h2 : Below w1.heap.size w1 w2) (hB : B ≤ w1.heap.size) : Below B w w2 := h.trans (h2.mono hB)
/-- Block g is just these cells, none of them frozen. -/
def Has (w : World) (g : Nat) (t : TypeId) (cs : Array Value) : Prop := w.heap[g]? = some (.cells cs t (0, 0))
theorem Has.size {w : World} {g : Nat} {t : TypeId} {cs : Array Value} (h : Has w g t cs) : g < w.heap.size := by
  unfold Has at h
  exact (Array.getElem?_eq_some_iff.1 h).1
theorem Has.at {w : World} {g : Nat} {t : TypeId} {cs : Array Value} (h : Has w g t cs) (i : Nat) : w.cell? ⟨g, i, none⟩ = cs[i]? := cell_of_row w g i cs t (0, 0) h
theorem Has.soft {w : World} {g : Nat} {t : TypeId} {cs : Array Value} (h : Has w g t cs) (i : Nat) : w.frozen? ⟨g, i, none⟩ = false := frozen_of_row w g i cs t h
theorem has_new (w : World) (t : TypeId) (cs : Array Value) : Has (w.alloc (.cells cs t)) w.heap.size t cs := heap_alloc_new w _
theorem Has.more {w : World} {g : Nat} {t : TypeId} {cs : Array Value} (h : Has w g t cs) (o : Obj) : Has (w.alloc o) g t cs := (Below.heap_alloc w o g h.size).trans h
theorem Has.below {w w' : World} {g B : Nat} {t : TypeId} {cs : Array Value} (h : Has w g t cs) (hb : Below B w w') (hg : g < B) : Has w' g t cs := (hb.block g hg).trans h
theorem Has.kept {w w' : World} {g : Nat} {t : TypeId} {cs : Array Value} (h : Has w g t cs) (hb : Below w.heap.size w w') : Has w' g t cs := h.below hb h.size
theorem Has.run {w : World} {g : Nat} {t : TypeId} {cs : List Value} (h : Has w g t cs.toArray) : w.rangeAt g 0 cs := fun j v hv => by rw [Nat.zero_add, h.at]; simpa using hv

/-! A run of cells that stays -/
theorem run_below {w w' : World} {b o B : Nat} {cs : List Value} (h : w.rangeAt b o cs) (hb : Below B w w') (hB : b < B) : w'.rangeAt b o cs := fun j v hv => (hb.cell (p := ⟨b, o + j, none⟩) hB).trans (h j v hv)
/-- A slice of n things of k cells each (nil, or empty: whatever its address), whose block lies below B. -/
def Rws (w : World) (B : Nat) (a : Option Addr) (n k : Nat) (xs : List Value) : Prop := xs.length = n * k ∧ (n = 0 ∨ ∃ b off, a = some ⟨b, off, none⟩ ∧ b < B ∧ w.rangeAt b off xs)
theorem Rws.kept {w w' : World} {B : Nat} {a : Option Addr} {n k : Nat} {xs : List Value} (h : Rws w B a n k xs) (hb : Below B w w') : Rws w' B a n k xs := by
  obtain ⟨h1, h2⟩ := h
  refine ⟨h1, ?_⟩
  rcases h2 with h2 | ⟨b, off, e, hB, hr⟩
  · exact .inl h2
  · exact .inr ⟨b, off, e, hB, run_below hr hb hB⟩
theorem Rws.up {w : World} {B B' : Nat} {a : Option Addr} {n k : Nat} {xs : List Value} (h : Rws w B a n k xs) (hb : B ≤ B') : Rws w B' a n k xs := by
  obtain ⟨h1, h2⟩ := h
  refine ⟨h1, ?_⟩
  rcases h2 with h2 | ⟨b, off, e, hB, hr⟩
  · exact .inl h2
  · exact .inr ⟨b, off, e, by omega, hr⟩
theorem Rws.open {w : World} {B : Nat} {a : Option Addr} {n k : Nat} {xs : List Value} (h : Rws w B a n k xs) (hn : 0 < n) : ∃ b off, a = some ⟨b, off, none⟩ ∧ b < B ∧ w.rangeAt b off xs := by
  rcases h.2 with h0 | h1
  · omega
  · exact h1
/-- Configs, parts. -/
def Cfs (w : World) (B : Nat) (a : Option Addr) (n : Nat) (cs : List Cf) : Prop := Rws w B a n 7 (cfs cs) ∧ cs.length = n
def Cps (w : World) (B : Nat) (a : Option Addr) (n : Nat) (ps : List Cp) : Prop := Rws w B a n 3 (cps ps) ∧ ps.length = n
theorem Cfs.kept {w w' : World} {B : Nat} {a : Option Addr} {n : Nat} {cs : List Cf} (h : Cfs w B a n cs) (hb : Below B w w') : Cfs w' B a n cs := ⟨h.1.kept hb, h.2⟩
theorem Cps.kept {w w' : World} {B : Nat} {a : Option Addr} {n : Nat} {ps : List Cp} (h : Cps w B a n ps) (hb : Below B w w') : Cps w' B a n ps := ⟨h.1.kept hb, h.2⟩
theorem Cfs.up {w : World} {B B' : Nat} {a : Option Addr} {n : Nat} {cs : List Cf} (h : Cfs w B a n cs) (hb : B ≤ B') : Cfs w B' a n cs := ⟨h.1.up hb, h.2⟩
theorem cfs_none (w : World) (B : Nat) (a : Option Addr) : Cfs w B a 0 [] := ⟨⟨rfl, .inl rfl⟩, rfl⟩
theorem cps_none (w : World) (B : Nat) (a : Option Addr) : Cps w B a 0 [] := ⟨⟨rfl, .inl rfl⟩, rfl⟩

theorem run_sub {w : World} {b o k : Nat} {xs ys : List Value} (h : w.rangeAt b o xs) (hs : ∀ j v, ys[j]? = some v → xs[k + j]? = some v) : w.rangeAt b (o + k) ys := fun j v hv => by
  rw [Nat.add_assoc]
  exact h (k + j) v (hs j v hv)
/-- What is read of a config, of a part, that lies at (b, o). -/
structure SeeC (w : World) (b o : Nat) (c : Cf) : Prop where
  c0 : w.cell? ⟨b, o, none⟩ = some (.string c.name)
  c1 : w.cell? ⟨b, o + 1, none⟩ = some (.slice c.ka c.kl c.kc)
  c2 : w.cell? ⟨b, o + 2, none⟩ = some (.int .i64 c.slot)
  c3 : w.cell? ⟨b, o + 3, none⟩ = some (.int .i64 c.budget)
  c4 : w.cell? ⟨b, o + 4, none⟩ = some (.int .i64 c.quota)
  c5 : w.cell? ⟨b, o + 5, none⟩ = some (.int .i64 c.rights)
  c6 : w.cell? ⟨b, o + 6, none⟩ = some (.slice c.fa c.fl c.fc)
  ld : (Instr.loadAt 38 (.pointer (some ⟨b, o, none⟩))).run Try.prog w = .ok (.agg c.cells) w
structure SeeP (w : World) (b o : Nat) (p : Cp) : Prop where
  c0 : w.cell? ⟨b, o, none⟩ = some (.int .i64 p.r)
  c1 : w.cell? ⟨b, o + 1, none⟩ = some (.int .i64 p.f)
  c2 : w.cell? ⟨b, o + 2, none⟩ = some (.int .i64 p.l)
  ld : (Instr.loadAt 24 (.pointer (some ⟨b, o, none⟩))).run Try.prog w = .ok (.agg p.cells) w
theorem see_c {w : World} {b o : Nat} {c : Cf} (h : w.rangeAt b o c.list) : SeeC w b o c :=
  ⟨h 0 _ rfl, h 1 _ rfl, h 2 _ rfl, h 3 _ rfl, h 4 _ rfl, h 5 _ rfl, h 6 _ rfl, run_loadAt_mid w b o 38 c.list _ h Try.underlying38 rfl (by show _ = some 7; kernel_rfl)⟩
theorem see_p {w : World} {b o : Nat} {p : Cp} (h : w.rangeAt b o p.list) : SeeP w b o p :=
  ⟨h 0 _ rfl, h 1 _ rfl, h 2 _ rfl, run_loadAt_mid w b o 24 p.list _ h Try.underlying24 rfl (by show _ = some 3; kernel_rfl)⟩
theorem cfs_see {w : World} {b o : Nat} {cs : List Cf} (h : w.rangeAt b o (cfs cs)) {i : Nat} {c : Cf} (hc : cs[i]? = some c) : SeeC w b (o + i * 7) c := see_c (run_sub h (fun j v hv => cfs_at hc hv))
theorem cps_see {w : World} {b o : Nat} {ps : List Cp} (h : w.rangeAt b o (cps ps)) {i : Nat} {p : Cp} (hp : ps[i]? = some p) : SeeP w b (o + i * 3) p := see_p (run_sub h (fun j v hv => cps_at hp hv))
/-- A config in a block of its own. -/
structure SeeB (w : World) (g : Nat) (c : Cf) : Prop where
  c0 : w.cell? ⟨g, 0, none⟩ = some (.string c.name)
  c1 : w.cell? ⟨g, 1, none⟩ = some (.slice c.ka c.kl c.kc)
  c2 : w.cell? ⟨g, 2, none⟩ = some (.int .i64 c.slot)
  c3 : w.cell? ⟨g, 3, none⟩ = some (.int .i64 c.budget)
  c4 : w.cell? ⟨g, 4, none⟩ = some (.int .i64 c.quota)
  c5 : w.cell? ⟨g, 5, none⟩ = some (.int .i64 c.rights)
  c6 : w.cell? ⟨g, 6, none⟩ = some (.slice c.fa c.fl c.fc)
  ld : (Instr.loadAt 38 (.pointer (some ⟨g, 0, none⟩))).run Try.prog w = .ok (.agg c.cells) w
theorem see_b {w : World} {g : Nat} {c : Cf} (h : Has w g 38 c.cells) : SeeB w g c :=
  ⟨h.at 0, h.at 1, h.at 2, h.at 3, h.at 4, h.at 5, h.at 6, (see_c (o := 0) (Has.run (cs := c.list) h)).ld⟩

/-- A load whose run is known, guarded or not. -/
theorem wpList_ld {w : World} {ops : Array Oper} {rest : List Oper} {o : Oper} {a : Act} {Q : Exit → Act → World → Prop} (ty : TypeId) (x : Operand) (ho : o.op = .load ty x) (p v : Value) (hr : (Instr.loadAt ty p).run Try.prog w = .ok v w) (hx : a.eval x = p) (hw : Region.wanted o (yielded ops a.tmps) = true)
    (h : wpList Try.prog ops Q rest (a.put o.dst v) w) : wpList Try.prog ops Q (o :: rest) a w :=
  wpList_step fun K hK => by
    rw [if_pos hw]
    unfold Oper.wp execOp
    simp only [ho, hx, Sem.run_bind, hr, Result.andThen_ok]
    exact hK _ _ h
/-- A whole value stored into a block that is known whole, the last one that was laid. -/
theorem wpList_row {w : World} {ops : Array Oper} {rest : List Oper} {o : Oper} {a : Act} {Q : Exit → Act → World → Prop} (hgd : o.guard = none) (x y : Operand) (ho : o.op = .store 38 x y)
    (g : Nat) (c : Cf) (hx : a.eval x = .pointer (some ⟨g, 0, none⟩)) (hy : a.eval y = .agg c.cells) (old : Array Value) (hg : Has w g 38 old)
    (hold : old.size = 7) (B : Nat) (hB : B ≤ g)
    (h : ∀ w', Has w' g 38 c.cells → Below B w w' → w'.heap.size = w.heap.size → wpList Try.prog ops Q rest (a.put o.dst undef) w') : wpList Try.prog ops Q (o :: rest) a w :=
  wpList_store_row hgd 38 x y ho g c.cells hx hy 38 old hg (by show _ = some 7; kernel_rfl) hold (all_oneCell_toArray (cf_one c))
    (h _ (setRow_heap _ _ _ _ _ _ hg) (below_setRow (Below.refl _ _) hB _) (setRow_size _ _ _))
def zeroC : Array Value := #[.string ByteArray.empty, .slice none 0 0, .int .i64 0, .int .i64 0, .int .i64 0, .int .i64 0, .slice none 0 0]
theorem zero38_run : ∀ w : World, (zeroValue 38).run Try.prog w = .ok (.agg zeroC) w := (zero_of_info (P := Try.prog) (t := 38) (n := 7) (by kernel_rfl)).1
/-! Rows that a call made -/
theorem info24 : (Try.prog.info? 24).map (fun i => (i.zero, i.size, i.bytes)) = some (some (.agg #[.int .i64 0, .int .i64 0, .int .i64 0]), 3, 24) := by kernel_rfl
theorem info38 : (Try.prog.info? 38).map (fun i => (i.zero, i.size, i.bytes)) = some (some (.agg zeroC), 7, 96) := by kernel_rfl
theorem parts_info {t : TypeId} {z : Value} {n m : Nat} (h : (Try.prog.info? t).map (fun i => (i.zero, i.size, i.bytes)) = some (some z, n, m)) : ∃ i, Try.prog.info? t = some i ∧ i.zero = some z ∧ i.size = n ∧ i.bytes = m := by
  obtain ⟨i, hi, e⟩ := Option.map_eq_some_iff.1 h
  simp only [Prod.mk.injEq] at e
  exact ⟨i, hi, e.1, e.2.1, e.2.2⟩
/-- v is a slice of n parts in a row of the call's own (from block base on), or nil. -/
def OwnP (w : World) (base : Nat) (v : Value) (n : Nat) (ps : List Cp) : Prop := w.ownsRow base 24 3 v n (cps ps)
def OwnC (w : World) (base : Nat) (v : Value) (n : Nat) (cs : List Cf) : Prop := w.ownsRow base 38 7 v n (cfs cs)
theorem own_form {w : World} {base e k : Nat} {v : Value} {n : Nat} {xs : List Value} (h : w.ownsRow base e k v n xs) (hk : 0 < k) : ∃ A c, v = .slice A n c ∧ n ≤ c ∧ Rws w w.heap.size A n k xs := by
  rcases h.2 with ⟨rfl, rfl⟩ | ⟨g, cap, cur, rfl, hb, hg, hn, hm, hs, ht⟩
  · exact ⟨none, 0, rfl, Nat.le_refl _, h.1, .inl rfl⟩
  · have hlt : g < w.heap.size := (Array.getElem?_eq_some_iff.1 hg).1
    refine ⟨_, cap, rfl, hn, h.1, .inr ⟨g, 0, rfl, hlt, fun j v hv => ?_⟩⟩
    rw [Nat.zero_add, cell_of_row w g j cur e (0, 0) hg]
    rw [← ht, List.getElem?_take] at hv
    split at hv
    · simpa using hv
    · cases hv
theorem own_kept {w w' : World} {base e k : Nat} {v : Value} {n : Nat} {xs : List Value} (h : w.ownsRow base e k v n xs) (hb : Below w.heap.size w w') : w'.ownsRow base e k v n xs := by
  obtain ⟨h1, h2⟩ := h
  refine ⟨h1, ?_⟩
  rcases h2 with h2 | ⟨g, cap, cur, e1, e2, e3, e4⟩
  · exact .inl h2
  · exact .inr ⟨g, cap, cur, e1, e2, (hb.block g (Array.getElem?_eq_some_iff.1 e3).1).trans e3, e4⟩
theorem own_block {w : World} {base e k : Nat} {v : Value} {n : Nat} {xs : List Value} (h : w.ownsRow base e k v n xs) : ∀ q, v.ownBlock = some q → base ≤ q := fun q hq => (h.lt q hq).1
theorem own_below {B base e k : Nat} {w0 w w' : World} {v : Value} {n : Nat} {xs : List Value} (h : Below B w0 w) (ho : w.ownsRow base e k v n xs) (hg : w.grownBy w' v.ownBlock) (hB : B ≤ base) (hs : B ≤ w.heap.size) : Below B w0 w' :=
  h.grown hg hs (fun q hq => Nat.le_trans hB (own_block ho q hq))
theorem own_len {w : World} {base : Nat} {v : Value} {n : Nat} {ps : List Cp} (h : OwnP w base v n ps) : ps.length = n := by
  have := h.1
  rw [cps_len] at this
  omega
theorem ownP_cps {w : World} {base : Nat} {v : Value} {n : Nat} {ps : List Cp} (h : OwnP w base v n ps) : ∃ A c, v = .slice A n c ∧ n ≤ c ∧ Cps w w.heap.size A n ps := by
  obtain ⟨A, c, e, hc, hr⟩ := own_form h (by omega)
  exact ⟨A, c, e, hc, hr, own_len h⟩
theorem ownC_cfs {w : World} {base : Nat} {v : Value} {n : Nat} {cs : List Cf} (h : OwnC w base v n cs) : ∃ A c, v = .slice A n c ∧ n ≤ c ∧ Cfs w w.heap.size A n cs := by
  obtain ⟨A, c, e, hc, hr⟩ := own_form h (by omega)
  have := h.1
  rw [cfs_len] at this
  exact ⟨A, c, e, hc, hr, by omega⟩
theorem runs_appP (w : World) (base : Nat) (ty : TypeId) (v : Value) (n : Nat) (ps : List Cp) (hown : OwnP w base v n ps) (g : Nat) (p : Cp) (hg : Has w g 24 p.cells) (hn : n ≤ 1000000) (hbase : base ≤ w.heap.size) :
    ∃ v' w', (Builtin.append_ #[27, 27] ty #[v, .slice (some ⟨g, 0, none⟩) 1 1]).run Try.prog w = .ok v' w' ∧ OwnP w' base v' (n + 1) (ps ++ [p]) ∧ w.grownBy w' v.ownBlock := by
  obtain ⟨i, hi, hz, hs, hb⟩ := parts_info info24
  obtain ⟨v', w', h1, h2, h3, _⟩ := run_append_own_at (P := Try.prog) w base 27 ty 24 i _ 3 24 Try.underlying27 hi hz hs hb rfl (by decide) v n (cps ps) hown ⟨g, 0, none⟩ 1 1 p.list rfl
    (fun j u hu => by have := (Has.run (cs := p.list) hg) j u hu; rwa [Nat.zero_add, ← show (⟨g, 0, none⟩ : Addr).add j = ⟨g, j, none⟩ by unfold Addr.add; split <;> simp_all] at this) (cp_one p) (by unfold maxLen; omega) (by omega) hbase
  exact ⟨v', w', h1, by rw [cps_snoc] at h2; exact h2, h3⟩
theorem runs_appC (w : World) (base : Nat) (ty : TypeId) (v : Value) (n : Nat) (cs : List Cf) (hown : OwnC w base v n cs) (b o m c : Nat) (ds : List Cf) (hr : w.rangeAt b o (cfs ds)) (hm : ds.length = m) (hn : n + m ≤ 1000000) (hbase : base ≤ w.heap.size) :
    ∃ v' w', (Builtin.append_ #[22, 22] ty #[v, .slice (some ⟨b, o, none⟩) m c]).run Try.prog w = .ok v' w' ∧ OwnC w' base v' (n + m) (cs ++ ds) ∧ w.grownBy w' v.ownBlock := by
  obtain ⟨i, hi, hz, hs, hb⟩ := parts_info info38
  obtain ⟨v', w', h1, h2, h3, _⟩ := run_append_own_at (P := Try.prog) w base 22 ty 38 i _ 7 96 Try.underlying22 hi hz hs hb rfl (by decide) v n (cfs cs) hown ⟨b, o, none⟩ m c (cfs ds) (by rw [cfs_len, hm])
    (fun j u hu => by have := hr j u hu; rwa [← show (⟨b, o, none⟩ : Addr).add j = ⟨b, o + j, none⟩ by unfold Addr.add; split <;> simp_all] at this) (cfs_one ds) (by unfold maxLen; omega) (by omega) hbase
  refine ⟨v', w', h1, ?_, h3⟩
  have e : cfs cs ++ cfs ds = cfs (cs ++ ds) := by simp [cfs]
  rw [e] at h2
  exact h2
/-- out = append(out, xs...) whose run is known. -/
theorem wpList_app {w : World} {ops : Array Oper} {rest : List Oper} {o : Oper} {a : Act} {Q : Exit → Act → World → Prop} (t : TypeId) (s x : Operand)
    (ho : o.op = .call { callee := .builtin .append, args := #[s, x], argTypes := #[t, t] }) (v u v' : Value) (w' : World) (hrun : (Builtin.append_ #[t, t] o.type #[v, u]).run Try.prog w = .ok v' w') (hs : a.eval s = v) (hx : a.eval x = u) (hw : Region.wanted o (yielded ops a.tmps) = true)
    (h : wpList Try.prog ops Q rest (a.put o.dst v') w') : wpList Try.prog ops Q (o :: rest) a w :=
  wpList_step fun K hK => by
    rw [if_pos hw]
    unfold Oper.wp execOp
    simp only [ho, resolve, invoke, builtin, Sem.run_bind, Sem.run_pure, Result.andThen_ok, List.map_toArray, List.map_cons, List.map_nil, hs, hx, hrun]
    exact hK _ _ h
/-- An append of a drawn region whose run is known. -/
theorem step_run {w : World} {ops : Array Oper} {o : Oper} {a : Act} {K : Act → World → Prop} {Q : Exit → Act → World → Prop} {E : Prop} (hw : Region.wanted o (yielded ops a.tmps) = true) (t : TypeId) (s x : Operand)
    (ho : o.op = .call { callee := .builtin .append, args := #[s, x], argTypes := #[t, t] }) (v u v' : Value) (hs : a.eval s = v) (hx : a.eval x = u) {w' : World}
    (hrun : (Builtin.append_ #[t, t] o.type #[v, u]).run Try.prog w = .ok v' w') (h : K (a.put o.dst v') w') :
    if Region.wanted o (yielded ops a.tmps) = true then Oper.wp Try.prog o a w K Q else E := by
  rw [if_pos hw]
  unfold Oper.wp execOp
  simp only [ho, resolve, invoke, builtin, Sem.run_bind, Sem.run_pure, Result.andThen_ok, List.map_toArray, List.map_cons, List.map_nil, hs, hx, hrun]
  exact h
/-! Two parts that are the same -/
theorem part_int (k : Nat) (cs : Array Value) (x : Int) (h : cs[k]? = some (.int .i64 x)) (w : World) : (part 3 cs k).run Try.prog w = .ok (.int .i64 x) w := by
  unfold part
  have : (isAgg 3).run Try.prog w = .ok false w := by unfold isAgg; rw [Sem.run_bind, run_underlying Try.underlying3 w]; rfl
  rw [Sem.run_bind, this]
  simp [h]
theorem same24 (p : Cp) (w : World) : (Op.equalIn 10000 24 (.agg p.cells) (.agg p.cells)).run Try.prog w = .ok true w := by
  have p0 := fun w => part_int 0 p.cells p.r rfl w
  have p1 := fun w => part_int 1 p.cells p.f rfl w
  have p2 := fun w => part_int 2 p.cells p.l rfl w
  rw [show (10000 : Nat) = 9999 + 1 from rfl, run_equalIn_agg w 9999 24 _ _ (by kernel_rfl) (by kernel_rfl)]
  simp only [Program.fieldsOf, Try.underlying24, Op.eqFields, ne_eq, reduceCtorEq, not_false_eq_true, if_true, Sem.run_bind, p0, p1, p2, Result.andThen_ok, run_equalIn_int w 9998 3 .i64 .i64 _ _ Try.underlying3, beq_self_eq_true, Bool.not_true, Bool.false_eq_true, if_false, Sem.run_pure, Sem.run_ite]
  rfl
end Go.Proofs.Ytljkngalnoepmaa
