/-
  A flash in memory: its struct, its bytes, its wears, the mask of a cut that is to come; what stays while another one is worked on; conditions: as each states.
-/
import Derived.Test.YtklhmneapegfpaaGreatDoorOwn
namespace Go.Proofs.YtklhmneapegfpaaGreatDoor
open Go.RowKit
set_option linter.unusedVariables false
set_option linter.unusedSimpArgs false

def ints (zs : List Int) : List Value := zs.map (Value.int .i64)
theorem ints_len (zs : List Int) : (ints zs).length = zs.length := by simp [ints]
/-- Block m begins with these cells. -/
def Bk (w : World) (m : Nat) (t : TypeId) (vs : List Value) : Prop := ∃ cur, Has w m t cur ∧ cur.toList.take vs.length = vs
theorem Bk.size {w : World} {m : Nat} {t : TypeId} {vs : List Value} (h : Bk w m t vs) : m < w.heap.size := by
  obtain ⟨_, h, _⟩ := h; exact h.size
theorem Bk.at {w : World} {m : Nat} {t : TypeId} {vs : List Value} (h : Bk w m t vs) (i : Nat) (hi : i < vs.length) : w.cell? ⟨m, i, none⟩ = vs[i]? := by
  obtain ⟨cur, h1, h2⟩ := h
  rw [h1.at]
  have e : cur[i]? = (cur.toList.take vs.length)[i]? := by rw [List.getElem?_take, if_pos hi]; simp
  rw [e, h2]
theorem Bk.soft {w : World} {m : Nat} {t : TypeId} {vs : List Value} (h : Bk w m t vs) (i : Nat) : w.frozen? ⟨m, i, none⟩ = false := by
  obtain ⟨cur, h1, _⟩ := h
  exact h1.soft i
theorem take_set {α : Type} (xs : List α) (n i : Nat) (v : α) (hi : i < n) : (xs.set i v).take n = (xs.take n).set i v := by
  rw [List.take_set]
theorem Bk.put {w : World} {m : Nat} {t : TypeId} {vs : List Value} (h : Bk w m t vs) (i : Nat) (hi : i < vs.length) (v : Value) : Bk (w.setCell ⟨m, i, none⟩ v) m t (vs.set i v) := by
  obtain ⟨cur, h1, h2⟩ := h
  refine ⟨_, h1.put i v, ?_⟩
  rw [List.length_set, Array.toList_setIfInBounds, take_set _ _ _ _ hi, h2]
theorem Bk.keep {w w' : World} {m : Nat} {t : TypeId} {vs : List Value} (h : Bk w m t vs) (he : w'.heap[m]? = w.heap[m]?) : Bk w' m t vs := by
  obtain ⟨cur, h1, h2⟩ := h
  exact ⟨cur, he.trans h1, h2⟩
theorem Bk.ne {w : World} {m m' : Nat} {t t' : TypeId} {vs vs' : List Value} (h : Bk w m t vs) (h' : Bk w m' t' vs') (ht : t ≠ t') : m ≠ m' := by
  rintro rfl
  obtain ⟨c, h1, _⟩ := h
  obtain ⟨c', h2, _⟩ := h'
  unfold Has at h1 h2
  rw [h1] at h2
  injection h2 with h2
  injection h2 with _ ht'
  exact ht ht'
theorem Has.bk {w : World} {g : Nat} {t : TypeId} {cs : Array Value} (h : Has w g t cs) : Bk w g t cs.toList := ⟨cs, h, List.take_of_length_le (Nat.le_refl _)⟩
theorem bk_byte {w : World} {m : Nat} {zs : List Int} (h : Bk w m 5 (nums zs)) (i : Nat) (hi : i < zs.length) : w.cell? ⟨m, i, none⟩ = some (.int .u8 (zs.getD i 0)) := by
  rw [h.at i (by rw [nums_len]; exact hi)]
  simp [nums, List.getElem?_map, List.getD_eq_getElem?_getD, List.getElem?_eq_getElem hi]
theorem bk_int {w : World} {m : Nat} {zs : List Int} (h : Bk w m 3 (ints zs)) (i : Nat) (hi : i < zs.length) : w.cell? ⟨m, i, none⟩ = some (.int .i64 (zs.getD i 0)) := by
  rw [h.at i (by rw [ints_len]; exact hi)]
  simp [ints, List.getElem?_map, List.getD_eq_getElem?_getD, List.getElem?_eq_getElem hi]
theorem bk_put_byte {w : World} {m : Nat} {zs : List Int} (h : Bk w m 5 (nums zs)) (i : Nat) (hi : i < zs.length) (x : Int) : Bk (w.setCell ⟨m, i, none⟩ (.int .u8 x)) m 5 (nums (zs.set i x)) := by
  have := h.put i (by rw [nums_len]; exact hi) (.int .u8 x)
  simpa [nums, List.map_set] using this
theorem bk_put_int {w : World} {m : Nat} {zs : List Int} (h : Bk w m 3 (ints zs)) (i : Nat) (hi : i < zs.length) (x : Int) : Bk (w.setCell ⟨m, i, none⟩ (.int .i64 x)) m 3 (ints (zs.set i x)) := by
  have := h.put i (by rw [ints_len]; exact hi) (.int .i64 x)
  simpa [ints, List.map_set] using this
/-- The bytes from i on, n of them. -/
theorem bk_row {w : World} {m : Nat} {zs : List Int} (h : Bk w m 5 (nums zs)) (hb : Byt zs) (i n : Nat) (hn : i + n ≤ zs.length) : Row w (some ⟨m, i, none⟩) n ((zs.drop i).take n) :=
  row_mk (by rw [List.length_take, List.length_drop]; omega) (byt_take (byt_drop hb _) _) h.size fun j hj => by
    rw [bk_byte h (i + j) (by omega), getD_take _ _ _ hj, getD_drop]

/-- Of the blocks that are there only those of p may have turned. -/
structure Only (p : Nat → Prop) (w w' : World) : Prop where
  os : w'.os = w.os
  tape : w'.tape = w.tape
  output : w'.output = w.output
  size : w.heap.size ≤ w'.heap.size
  block : ∀ b, b < w.heap.size → ¬ p b → w'.heap[b]? = w.heap[b]?
theorem Only.refl (p : Nat → Prop) (w : World) : Only p w w := ⟨rfl, rfl, rfl, Nat.le_refl _, fun _ _ _ => rfl⟩
theorem Only.trans {p : Nat → Prop} {a b c : World} (h : Only p a b) (k : Only p b c) : Only p a c :=
  ⟨k.os.trans h.os, k.tape.trans h.tape, k.output.trans h.output, Nat.le_trans h.size k.size, fun i hi hp => (k.block i (Nat.lt_of_lt_of_le hi h.size) hp).trans (h.block i hi hp)⟩
theorem Only.mono {p q : Nat → Prop} {w w' : World} (h : Only p w w') (hpq : ∀ b, p b → q b) : Only q w w' := ⟨h.os, h.tape, h.output, h.size, fun b hb hq => h.block b hb fun hp => hq (hpq b hp)⟩
theorem Only.drew {p : Nat → Prop} {a w : World} (h : Only p a w) : Only p a w.drew := ⟨h.os, h.tape, h.output, h.size, h.block⟩
theorem Only.drewN {p : Nat → Prop} {a w : World} (h : Only p a w) (n : Nat) : Only p a (w.drewN n) := ⟨h.os, h.tape, h.output, h.size, h.block⟩
theorem Only.alloc {p : Nat → Prop} {a w : World} (h : Only p a w) (o : Obj) : Only p a (w.alloc o) :=
  h.trans ⟨rfl, rfl, rfl, by simp, fun b hb _ => Below.heap_alloc _ _ _ hb⟩
theorem Only.below {p : Nat → Prop} {a w w' : World} (h : Only p a w) (hb : Below w.heap.size w w') : Only p a w' :=
  h.trans ⟨hb.os, hb.tape, hb.output, hb.size, fun b hlt _ => hb.block b hlt⟩
theorem Only.below' {p : Nat → Prop} {a w w' : World} (h : Only p a w) (hb : Below a.heap.size w w') : Only p a w' :=
  ⟨hb.os.trans h.os, hb.tape.trans h.tape, hb.output.trans h.output, Nat.le_trans h.size hb.size, fun b hlt hp => (hb.block b hlt).trans (h.block b hlt hp)⟩
theorem Only.of_below {p : Nat → Prop} {w w' : World} (hb : Below w.heap.size w w') : Only p w w' := (Only.refl p w).below hb
theorem Only.setCell {p : Nat → Prop} {a w : World} (h : Only p a w) {q : Addr} (hq : p q.block) (v : Value) : Only p a (w.setCell q v) :=
  h.trans ⟨rfl, rfl, rfl, by simp [World.setCell], fun b hb hp => Below.heap_setCell _ _ _ _ (fun e => hp (e ▸ hq))⟩
theorem Only.setNew {p : Nat → Prop} {a w : World} (h : Only p a w) {q : Addr} (hq : a.heap.size ≤ q.block) (v : Value) : Only p a (w.setCell q v) :=
  h.below' ((Below.refl _ _).setCell hq v)
theorem Only.setRow {p : Nat → Prop} {a w : World} (h : Only p a w) {b : Nat} (hq : p b) (cs : Array Value) : Only p a (w.setRow b cs) :=
  h.trans ⟨rfl, rfl, rfl, by rw [setRow_size]; exact Nat.le_refl _, fun i hi hp => setRow_other w b i cs (fun e => hp (e ▸ hq))⟩
theorem Only.to_below {p : Nat → Prop} {w w' : World} {B : Nat} (h : Only p w w') (hB : B ≤ w.heap.size) (hp : ∀ b, p b → B ≤ b) : Below B w w' :=
  ⟨h.os, h.tape, h.output, h.size, fun b hb => h.block b (by omega) fun hpb => by have := hp b hpb; omega⟩
theorem Has.only {w w' : World} {p : Nat → Prop} {g : Nat} {t : TypeId} {cs : Array Value} (h : Has w g t cs) (o : Only p w w') (hp : ¬ p g) : Has w' g t cs := (o.block g h.size hp).trans h
theorem Bk.only {w w' : World} {p : Nat → Prop} {g : Nat} {t : TypeId} {vs : List Value} (h : Bk w g t vs) (o : Only p w w') (hp : ¬ p g) : Bk w' g t vs := h.keep (o.block g h.size hp)
theorem row_keep {w w' : World} {p : Nat → Prop} {a : Option Addr} {n : Nat} {zs : List Int} (h : Row w a n zs) (o : Only p w w') (hp : ∀ x, a = some x → ¬ p x.block) : Row w' a n zs := by
  obtain ⟨h1, h2, h3⟩ := h
  refine ⟨h1, h2, ?_⟩
  rcases h3 with h0 | ⟨b, off, ha, hbw, hc⟩
  · exact .inl h0
  · exact .inr ⟨b, off, ha, Nat.lt_of_lt_of_le hbw o.size, fun j hj => (World.cell?_of_block (o.block b hbw (hp _ ha))).trans (hc j hj)⟩

/-- A count of operations that are done ahead of a cut. -/
def Fits63 (q : Nat) : Prop := q < 9223372036854775808
/-- The cut that is to come, as the struct has it. -/
def CutIs (w : World) (T : Nat) : Option (Nat × List Int) → Bool → Int → Option Addr → Nat → Nat → Prop
  | none, c, _, _, _, _ => c = false
  | some (q, ms), c, h, A, n, z => c = true ∧ h = (q : Int) ∧ Fits63 q ∧ Row w A n ms ∧ n ≤ z ∧ ∀ x, A = some x → T ≤ x.block
structure At (w : World) (T g m k : Nat) (t : TypeId) (cs : Array Value) (S : Fs) : Prop where
  ok : S.Ok
  gT : g < T
  mT : m < T
  kT : k < T
  str : Has w g t cs
  mem : Bk w m 5 (nums S.mem)
  wear : Bk w k 3 (ints S.wear)
def fcells (m k N L : Nat) (ops : Nat) (off c : Bool) (h : Int) (M : Value) : Array Value :=
  #[.slice (some ⟨m, 0, none⟩) N N, .slice (some ⟨k, 0, none⟩) L L, .int .i64 (ops : Int), .bool off, .bool c, .int .i64 h, M]
def rcells (m k N L : Nat) (ops : Nat) (off c : Bool) (h : Int) (M : Value) : Array Value :=
  #[.slice (some ⟨m, 0, none⟩) N N, .slice (some ⟨k, 0, none⟩) L L, .bool off, .bool c, .int .i64 h, M, .int .i64 (ops : Int)]
/-- The program's flash. -/
def Fl (w : World) (T g m k : Nat) (S : Fs) : Prop := ∃ c h A n z, At w T g m k 57 (fcells m k S.mem.length S.wear.length S.ops S.off c h (.slice A n z)) S ∧ CutIs w T S.cut c h A n z
/-- The document's flash. -/
def Rl (w : World) (T g m k : Nat) (S : Fs) : Prop := ∃ c h A n z, At w T g m k 59 (rcells m k S.mem.length S.wear.length S.ops S.off c h (.slice A n z)) S ∧ CutIs w T S.cut c h A n z
def In3 (g m k b : Nat) : Prop := b = g ∨ b = m ∨ b = k

theorem CutIs.only {w w' : World} {T : Nat} {p : Nat → Prop} (o : Only p w w') (hp : ∀ b, p b → b < T) : ∀ {u : Option (Nat × List Int)} {c : Bool} {h : Int} {A : Option Addr} {n z : Nat}, CutIs w T u c h A n z → CutIs w' T u c h A n z
  | none, _, _, _, _, _, h => h
  | some (_, _), _, _, _, _, _, ⟨h1, h2, h3, h4, h5, h6⟩ => ⟨h1, h2, h3, row_keep h4 o fun x hx hpx => by have := hp _ hpx; have := h6 x hx; omega, h5, h6⟩
theorem At.only {w w' : World} {T g m k : Nat} {t : TypeId} {cs : Array Value} {S : Fs} {p : Nat → Prop} (h : At w T g m k t cs S) (o : Only p w w') (hp : ∀ b, p b → ¬ In3 g m k b) : At w' T g m k t cs S :=
  ⟨h.ok, h.gT, h.mT, h.kT, h.str.only o fun x => hp _ x (.inl rfl), h.mem.only o fun x => hp _ x (.inr (.inl rfl)), h.wear.only o fun x => hp _ x (.inr (.inr rfl))⟩
theorem Fl.only {w w' : World} {T g m k : Nat} {S : Fs} {p : Nat → Prop} (h : Fl w T g m k S) (o : Only p w w') (hp : ∀ b, p b → b < T ∧ ¬ In3 g m k b) : Fl w' T g m k S := by
  obtain ⟨c, a, A, n, z, h1, h2⟩ := h
  exact ⟨c, a, A, n, z, h1.only o fun b hb => (hp b hb).2, h2.only o fun b hb => (hp b hb).1⟩
theorem Rl.only {w w' : World} {T g m k : Nat} {S : Fs} {p : Nat → Prop} (h : Rl w T g m k S) (o : Only p w w') (hp : ∀ b, p b → b < T ∧ ¬ In3 g m k b) : Rl w' T g m k S := by
  obtain ⟨c, a, A, n, z, h1, h2⟩ := h
  exact ⟨c, a, A, n, z, h1.only o fun b hb => (hp b hb).2, h2.only o fun b hb => (hp b hb).1⟩
theorem Fl.kept {w w' : World} {T g m k : Nat} {S : Fs} (h : Fl w T g m k S) (hb : Below w.heap.size w w') : Fl w' T g m k S := h.only (p := fun _ => False) (Only.of_below hb) fun b hb => hb.elim
theorem Rl.kept {w w' : World} {T g m k : Nat} {S : Fs} (h : Rl w T g m k S) (hb : Below w.heap.size w w') : Rl w' T g m k S := h.only (p := fun _ => False) (Only.of_below hb) fun b hb => hb.elim
theorem Fl.raise {w : World} {T T' g m k : Nat} {S : Fs} (h : Fl w T g m k S) (hc : S.cut = none) (hT : T ≤ T') : Fl w T' g m k S := by
  obtain ⟨c, a, A, n, z, h1, h2⟩ := h
  refine ⟨c, a, A, n, z, ⟨h1.ok, Nat.lt_of_lt_of_le h1.gT hT, Nat.lt_of_lt_of_le h1.mT hT, Nat.lt_of_lt_of_le h1.kT hT, h1.str, h1.mem, h1.wear⟩, ?_⟩
  rw [hc] at h2 ⊢
  exact h2
theorem Rl.raise {w : World} {T T' g m k : Nat} {S : Fs} (h : Rl w T g m k S) (hc : S.cut = none) (hT : T ≤ T') : Rl w T' g m k S := by
  obtain ⟨c, a, A, n, z, h1, h2⟩ := h
  refine ⟨c, a, A, n, z, ⟨h1.ok, Nat.lt_of_lt_of_le h1.gT hT, Nat.lt_of_lt_of_le h1.mT hT, Nat.lt_of_lt_of_le h1.kT hT, h1.str, h1.mem, h1.wear⟩, ?_⟩
  rw [hc] at h2 ⊢
  exact h2
theorem Fl.ok {w : World} {T g m k : Nat} {S : Fs} (h : Fl w T g m k S) : S.Ok := by obtain ⟨_, _, _, _, _, h, _⟩ := h; exact h.ok
theorem Rl.ok {w : World} {T g m k : Nat} {S : Fs} (h : Rl w T g m k S) : S.Ok := by obtain ⟨_, _, _, _, _, h, _⟩ := h; exact h.ok
theorem fl_cells {w : World} {g m k N L ops : Nat} {off c : Bool} {h : Int} {M : Value} (a : Has w g 57 (fcells m k N L ops off c h M)) :
    w.cell? ⟨g, 0, none⟩ = some (.slice (some ⟨m, 0, none⟩) N N) ∧ w.cell? ⟨g, 1, none⟩ = some (.slice (some ⟨k, 0, none⟩) L L) ∧ w.cell? ⟨g, 2, none⟩ = some (.int .i64 (ops : Int)) ∧ w.cell? ⟨g, 3, none⟩ = some (.bool off) ∧
    w.cell? ⟨g, 4, none⟩ = some (.bool c) ∧ w.cell? ⟨g, 5, none⟩ = some (.int .i64 h) ∧ w.cell? ⟨g, 6, none⟩ = some M :=
  ⟨a.at 0, a.at 1, a.at 2, a.at 3, a.at 4, a.at 5, a.at 6⟩
theorem rl_cells {w : World} {g m k N L ops : Nat} {off c : Bool} {h : Int} {M : Value} (a : Has w g 59 (rcells m k N L ops off c h M)) :
    w.cell? ⟨g, 0, none⟩ = some (.slice (some ⟨m, 0, none⟩) N N) ∧ w.cell? ⟨g, 1, none⟩ = some (.slice (some ⟨k, 0, none⟩) L L) ∧ w.cell? ⟨g, 2, none⟩ = some (.bool off) ∧ w.cell? ⟨g, 3, none⟩ = some (.bool c) ∧
    w.cell? ⟨g, 4, none⟩ = some (.int .i64 h) ∧ w.cell? ⟨g, 5, none⟩ = some M ∧ w.cell? ⟨g, 6, none⟩ = some (.int .i64 (ops : Int)) :=
  ⟨a.at 0, a.at 1, a.at 2, a.at 3, a.at 4, a.at 5, a.at 6⟩
end Go.Proofs.YtklhmneapegfpaaGreatDoor
