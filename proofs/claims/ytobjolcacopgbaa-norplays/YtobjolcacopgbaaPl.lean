/-
  Words for the law NorPlays: the calls that came in, what stands ahead of each; conditions: as each states.
-/
import Derived.Test.YtobjolcacopgbaaCutsf
import Derived.Deep.CutRange
import Derived.Deep.CutBlock
import Derived.Deep.RegionHeld
import Derived.Laws.BytesArg
namespace Go.Proofs.Ytobjolcacopgbaa
open Go.RowKit
set_option linter.unusedVariables false
set_option linter.unusedSimpArgs false

/-- A call as the law was handed it: five cells from o on, its two rows. -/
structure ActAt (w : World) (b o : Nat) (way at' n : Int) (BA : Option Addr) (BL BC : Nat) (bs : List Int) (MA : Option Addr) (ML MC : Nat) (ms : List Int) : Prop where
  c0 : w.cell? ⟨b, o, none⟩ = some (.int .i64 way)
  c1 : w.cell? ⟨b, o + 1, none⟩ = some (.int .i64 at')
  c2 : w.cell? ⟨b, o + 2, none⟩ = some (.int .i64 n)
  c3 : w.cell? ⟨b, o + 3, none⟩ = some (.slice BA BL BC)
  c4 : w.cell? ⟨b, o + 4, none⟩ = some (.slice MA ML MC)
  i1 : I64 at'
  i2 : I64 n
  rb : Row w BA BL bs
  lb : BL ≤ BC
  rm : Row w MA ML ms
  lm : ML ≤ MC
theorem ActAt.kept {w w' : World} {b o : Nat} {way at' n : Int} {BA : Option Addr} {BL BC : Nat} {bs : List Int} {MA : Option Addr} {ML MC : Nat} {ms : List Int} (h : ActAt w b o way at' n BA BL BC bs MA ML MC ms) (hb : Below w.heap.size w w') : ActAt w' b o way at' n BA BL BC bs MA ML MC ms := by
  have hlt : b < w.heap.size := World.block_lt_of_cell? _ _ h.c0
  exact ⟨(hb.cell (p := ⟨b, o, none⟩) hlt).trans h.c0, (hb.cell (p := ⟨b, o + 1, none⟩) hlt).trans h.c1, (hb.cell (p := ⟨b, o + 2, none⟩) hlt).trans h.c2, (hb.cell (p := ⟨b, o + 3, none⟩) hlt).trans h.c3, (hb.cell (p := ⟨b, o + 4, none⟩) hlt).trans h.c4, h.i1, h.i2, row_below hb h.rb, h.lb, row_below hb h.rm, h.lm⟩
/-- All of them. -/
def Acts (w : World) (a : Option Addr) (len : Nat) : Prop := len = 0 ∨ ∃ b off, a = some ⟨b, off, none⟩ ∧ ∀ i, i < len → ∃ way at' n BA BL BC bs MA ML MC ms, ActAt w b (off + i * 5) way at' n BA BL BC bs MA ML MC ms
/-- The three flashes. -/
structure Three (w : World) (T g m k g2 m2 k2 gr mr kr d : Nat) (S O R : Fs) : Prop where
  f : Fl w T g m k S
  o : Fl w T g2 m2 k2 O
  r : Rl w T gr mr kr R
  sim : Sim d S R
  fs : Few S
  fo : Few O
  fr : Few R
/-- They lie apart. -/
structure Apart3 (B T g m k g2 m2 k2 gr mr kr : Nat) : Prop where
  low : ∀ b, In3 g m k b ∨ In3 g2 m2 k2 b ∨ In3 gr mr kr b → B ≤ b ∧ b < T
  fo : ∀ b, In3 g m k b → ¬ In3 g2 m2 k2 b
  fr : ∀ b, In3 g m k b → ¬ In3 gr mr kr b
  or : ∀ b, In3 g2 m2 k2 b → ¬ In3 gr mr kr b
theorem Three.kept {w w' : World} {T g m k g2 m2 k2 gr mr kr d : Nat} {S O R : Fs} (h : Three w T g m k g2 m2 k2 gr mr kr d S O R) (hb : Below w.heap.size w w') : Three w' T g m k g2 m2 k2 gr mr kr d S O R :=
  ⟨h.f.kept hb, h.o.kept hb, h.r.kept hb, h.sim, h.fs, h.fo, h.fr⟩
/-- One of them was worked on. -/
theorem Three.of_f {w w' : World} {B T g m k g2 m2 k2 gr mr kr d : Nat} {S O R S' : Fs} (h : Three w T g m k g2 m2 k2 gr mr kr d S O R) (hp : Apart3 B T g m k g2 m2 k2 gr mr kr) (ht : FlTo T g m k S' w w') : Fl w' T g m k S' ∧ Fl w' T g2 m2 k2 O ∧ Rl w' T gr mr kr R :=
  ⟨ht.1, h.o.only ht.2 (fun b hb => ⟨(hp.low b (.inl hb)).2, hp.fo b hb⟩), h.r.only ht.2 (fun b hb => ⟨(hp.low b (.inl hb)).2, hp.fr b hb⟩)⟩
theorem Three.of_o {w w' : World} {B T g m k g2 m2 k2 gr mr kr d : Nat} {S O R O' : Fs} (h : Three w T g m k g2 m2 k2 gr mr kr d S O R) (hp : Apart3 B T g m k g2 m2 k2 gr mr kr) (ht : FlTo T g2 m2 k2 O' w w') (hf : Few O') : Three w' T g m k g2 m2 k2 gr mr kr d S O' R :=
  ⟨h.f.only ht.2 (fun b hb => ⟨(hp.low b (.inr (.inl hb))).2, fun x => hp.fo b x hb⟩), ht.1, h.r.only ht.2 (fun b hb => ⟨(hp.low b (.inr (.inl hb))).2, hp.or b hb⟩), h.sim, h.fs, hf, h.fr⟩
theorem fl_apart {w w' : World} {B T g m k g2 m2 k2 gr mr kr : Nat} {S R' : Fs} (h : Fl w T g m k S) (hp : Apart3 B T g m k g2 m2 k2 gr mr kr) (ht : RlTo T gr mr kr R' w w') : Fl w' T g m k S :=
  h.only ht.2 (fun b hb => ⟨(hp.low b (.inr (.inr hb))).2, fun x => hp.fr b x hb⟩)
theorem fo_apart {w w' : World} {B T g m k g2 m2 k2 gr mr kr : Nat} {O R' : Fs} (h : Fl w T g2 m2 k2 O) (hp : Apart3 B T g m k g2 m2 k2 gr mr kr) (ht : RlTo T gr mr kr R' w w') : Fl w' T g2 m2 k2 O :=
  h.only ht.2 (fun b hb => ⟨(hp.low b (.inr (.inr hb))).2, fun x => hp.or b x hb⟩)
/-- The rest of a region, under a condition that says more. -/
theorem wpAnyH_strong {P : Program} {md : Region.Mode} {ops : Array Oper} {Q : Exit → Act → World → Prop} {S S' : World → Prop} (hs : ∀ w, S' w → S w) :
    ∀ (fuel : Nat) (listed : Array Bool) (a : Act) (w : World), wpAnyH P md ops Q S' fuel listed a w → wpAnyH P md ops Q S fuel listed a w
  | 0, _, _, _, h => h
  | fuel + 1, _, _, _, h => ⟨h.1, fun i hi => wpOp_mono (fun a' w' h' => ⟨hs w' h'.1, wpAnyH_strong hs fuel _ a' w' h'.2⟩) (h.2 i hi)⟩
/-- An append of a drawn region whose run is known. -/
theorem step_run {w : World} {ops : Array Oper} {o : Oper} {a : Act} {K : Act → World → Prop} {Q : Exit → Act → World → Prop} {E : Prop} (hw : Region.wanted o (yielded ops a.tmps) = true) (s x : Operand)
    (ho : o.op = .call { callee := .builtin .append, args := #[s, x], argTypes := #[28, 28] }) (t : TypeId) (hty : o.type = t) (v u v' : Value) (hs : a.eval s = v) (hx : a.eval x = u) {w' : World}
    (hrun : (Builtin.append_ #[28, 28] t #[v, u]).run Try.prog w = .ok v' w') (h : K (a.put o.dst v') w') :
    if Region.wanted o (yielded ops a.tmps) = true then Oper.wp Try.prog o a w K Q else E := by
  rw [if_pos hw]
  unfold Oper.wp execOp
  simp only [ho, hty, resolve, invoke, builtin, Sem.run_bind, Sem.run_pure, Result.andThen_ok, List.map_toArray, List.map_cons, List.map_nil, hs, hx, hrun]
  exact h
/-- A row of bytes as a text. -/
theorem conv_row {w : World} {a : Option Addr} {n c : Nat} {zs : List Int} (h : Row w a n zs) : (convert 28 9 (.slice a n c)).run Try.prog w = .ok (.string (strOfNums zs)) w := by
  by_cases hn : 0 < n
  · obtain ⟨b, off, rfl, _, hc⟩ := row_open h hn
    exact run_convert_bytes_arg w 28 5 Try.underlying28 Try.underlying5 b off n c zs h.1 hc 9 Try.underlying9
  · obtain rfl : n = 0 := by omega
    obtain rfl : zs = [] := List.eq_nil_of_length_eq_zero h.1
    cases a with
    | none => exact run_convert_bytes_nil w 28 5 Try.underlying28 Try.underlying5 0 c 9 Try.underlying9
    | some ad =>
      have hl : (loadCells ad 0).run Try.prog w = .ok (([] : List Int).map (Value.int .u8)).toArray w := run_loadCells_list (P := Try.prog) w ad [] (fun j v hj => by simp at hj)
      rw [run_convert_bytes_string w 28 9 5 _ 0 c Try.underlying28 Try.underlying5 Try.underlying9, run_bytesToString w _ 0 c [] hl]
      rfl
/-- The call's own copy. -/
def actCells (way at' q : Int) (BA : Option Addr) (BL BC : Nat) (MA : Option Addr) (ML MC : Nat) : Array Value := #[.int .i64 way, .int .i64 at', .int .i64 q, .slice BA BL BC, .slice MA ML MC]
theorem act_cells {w : World} {ab : Nat} {way at' q : Int} {BA : Option Addr} {BL BC : Nat} {MA : Option Addr} {ML MC : Nat} (h : Has w ab 30 (actCells way at' q BA BL BC MA ML MC)) :
    w.cell? ⟨ab, 0, none⟩ = some (.int .i64 way) ∧ w.cell? ⟨ab, 1, none⟩ = some (.int .i64 at') ∧ w.cell? ⟨ab, 2, none⟩ = some (.int .i64 q) ∧ w.cell? ⟨ab, 3, none⟩ = some (.slice BA BL BC) ∧ w.cell? ⟨ab, 4, none⟩ = some (.slice MA ML MC) :=
  ⟨h.at 0, h.at 1, h.at 2, h.at 3, h.at 4⟩
/-- A slice that was handed in does not lie in a flash that came later. -/
theorem clear_in {w : World} {g m k : Nat} {A : Option Addr} {n : Nat} {zs : List Int} (h : Row w A n zs) (hl : ∀ b, In3 g m k b → w.heap.size ≤ b) : Clear g m k A n := by
  rcases h.2.2 with h0 | ⟨b, off, rfl, hb, _⟩
  · exact .inl h0
  · exact .inr fun x hx e => by
      cases hx
      have := hl _ e
      simp only [] at this
      omega
/-- Behind the switch: all three are there, and alike. -/
def After (w : World) (T g m k g2 m2 k2 gr mr kr d ops ab : Nat) (cs : Array Value) (wx : World) : Prop :=
  ∃ S O R, Three wx T g m k g2 m2 k2 gr mr kr d S O R ∧ S.ops ≤ ops ∧ O.ops ≤ ops ∧ Has wx ab 30 cs ∧ Below w.heap.size w wx ∧ T ≤ wx.heap.size
/-- What stands ahead of each call. -/
def Playing (w : World) (T g m k g2 m2 k2 gr mr kr len : Nat) (v : Value) (wr : World) : Prop :=
  ∃ (j : Nat) (S O R : Fs), v = .int .i64 (j : Int) ∧ j ≤ len ∧ S.ops ≤ j ∧ O.ops ≤ j ∧ Three wr T g m k g2 m2 k2 gr mr kr (len - j) S O R ∧ Below w.heap.size w wr ∧ T ≤ wr.heap.size
/-- So many sectors were looked at. -/
def Rounds (W : World) (L : Nat) (v : Value) (wr : World) : Prop := ∃ s : Nat, v = .int .i64 (s : Int) ∧ s ≤ L ∧ Below W.heap.size W wr
end Go.Proofs.Ytobjolcacopgbaa
