/-
  Words for the law AreaPlays: two flashes, two areas of each, and what stands ahead of each call; conditions: as each states.
-/
import Derived.Test.YtgignmjojlolfaaDoorActs
import Derived.Test.YtgignmjojlolfaaDoorAbl
import Derived.Test.YtgignmjojlolfaaDoorRdig
import Derived.Test.YtgignmjojlolfaaDoorCut
import Derived.Deep.CutRange
import Derived.Deep.CutBlock
import Derived.Deep.RegionHeld
import Derived.Laws.BytesArg
namespace Go.Proofs.YtgignmjojlolfaaDoor
open Go.RowKit
set_option linter.unusedVariables false
set_option linter.unusedSimpArgs false

def two (f : Nat → Nat) : Array Value := #[.pointer (some ⟨f 0, 0, none⟩), .pointer (some ⟨f 1, 0, none⟩)]
theorem two_at {w : World} {b : Nat} {t : TypeId} {f : Nat → Nat} (h : Has w b t (two f)) {i : Nat} (hi : i < 2) : w.cell? ⟨b, i, none⟩ = some (.pointer (some ⟨f i, 0, none⟩)) := by
  rcases i with _ | _ | i
  · exact h.at 0
  · exact h.at 1
  · omega
/-- Both flashes, both areas of each, the rows that hold them. -/
structure Pl0 (w : World) (T g m k gr mr kr aa ba : Nat) (X Y : Nat → Nat) (P Q : Nat → Pt) (S R : Fs) (wx : World) : Prop where
  f : Fl wx T g m k S
  r : Rl wx T gr mr kr R
  a : ∀ i, i < 2 → Ar wx (X i) g (P i)
  b : ∀ i, i < 2 → Rar wx (Y i) gr (Q i)
  av : Has wx aa 30 (two X)
  bv : Has wx ba 33 (two Y)
  low : Below w.heap.size w wx
  top : T ≤ wx.heap.size
/-- Where all lies. -/
structure PlAt (w : World) (T g m k gr mr kr aa ba : Nat) (X Y : Nat → Nat) : Prop where
  lf : ∀ b, In3 g m k b → w.heap.size ≤ b ∧ b < T
  lr : ∀ b, In3 gr mr kr b → w.heap.size ≤ b ∧ b < T
  fr : ∀ b, In3 g m k b → ¬ In3 gr mr kr b
  x : ∀ i, i < 2 → T ≤ X i
  y : ∀ i, i < 2 → T ≤ Y i
  aa : T ≤ aa
  ba : T ≤ ba
theorem Pl0.kept {w wx w' : World} {T g m k gr mr kr aa ba : Nat} {X Y : Nat → Nat} {P Q : Nat → Pt} {S R : Fs} (h : Pl0 w T g m k gr mr kr aa ba X Y P Q S R wx) (hb : Below wx.heap.size wx w') : Pl0 w T g m k gr mr kr aa ba X Y P Q S R w' :=
  ⟨h.f.kept hb, h.r.kept hb, fun i hi => (h.a i hi).kept hb, fun i hi => (h.b i hi).kept hb, h.av.kept hb, h.bv.kept hb, h.low.trans (hb.mono h.low.size), Nat.le_trans h.top hb.size⟩
theorem PlAt.nf {w : World} {T g m k gr mr kr aa ba : Nat} {X Y : Nat → Nat} (q : PlAt w T g m k gr mr kr aa ba X Y) {b : Nat} (hb : T ≤ b) : ¬ In3 g m k b := fun e => by have := (q.lf _ e).2; omega
theorem PlAt.nr {w : World} {T g m k gr mr kr aa ba : Nat} {X Y : Nat → Nat} (q : PlAt w T g m k gr mr kr aa ba X Y) {b : Nat} (hb : T ≤ b) : ¬ In3 gr mr kr b := fun e => by have := (q.lr _ e).2; omega
theorem Pl0.of_f {w wx w' : World} {T g m k gr mr kr aa ba : Nat} {X Y : Nat → Nat} {P Q : Nat → Pt} {S R S' : Fs} (h : Pl0 w T g m k gr mr kr aa ba X Y P Q S R wx) (q : PlAt w T g m k gr mr kr aa ba X Y) (ht : FlTo T g m k S' wx w') : Pl0 w T g m k gr mr kr aa ba X Y P Q S' R w' :=
  ⟨ht.1, h.r.only ht.2 (fun b hb => ⟨(q.lf b hb).2, q.fr b hb⟩), fun i hi => (h.a i hi).only ht.2 (q.nf (q.x i hi)), fun i hi => (h.b i hi).only ht.2 (q.nf (q.y i hi)), h.av.only ht.2 (q.nf q.aa), h.bv.only ht.2 (q.nf q.ba), h.low.trans (ht.2.to_below h.low.size fun b hb => (q.lf b hb).1), Nat.le_trans h.top ht.2.size⟩
theorem Pl0.of_r {w wx w' : World} {T g m k gr mr kr aa ba : Nat} {X Y : Nat → Nat} {P Q : Nat → Pt} {S R R' : Fs} (h : Pl0 w T g m k gr mr kr aa ba X Y P Q S R wx) (q : PlAt w T g m k gr mr kr aa ba X Y) (ht : RlTo T gr mr kr R' wx w') : Pl0 w T g m k gr mr kr aa ba X Y P Q S R' w' :=
  ⟨h.f.only ht.2 (fun b hb => ⟨(q.lr b hb).2, fun x => q.fr b x hb⟩), ht.1, fun i hi => (h.a i hi).only ht.2 (q.nr (q.x i hi)), fun i hi => (h.b i hi).only ht.2 (q.nr (q.y i hi)), h.av.only ht.2 (q.nr q.aa), h.bv.only ht.2 (q.nr q.ba), h.low.trans (ht.2.to_below h.low.size fun b hb => (q.lr b hb).1), Nat.le_trans h.top ht.2.size⟩
/-- The two answer alike for d operations. -/
structure Good (L d : Nat) (S R : Fs) : Prop where
  sim : Sim d S R
  fs : Few S
  fr : Few R
  wl : S.wear.length = L
theorem Good.less {L d d' : Nat} {S R : Fs} (h : Good L d S R) (hd : d' ≤ d) : Good L d' S R := ⟨h.sim.less hd, h.fs, h.fr, h.wl⟩
theorem Good.wr {L d : Nat} {S R : Fs} (h : Good L d S R) : R.wear.length = L := by rw [← h.sim.wear]; exact h.wl
theorem good_prog {L d : Nat} {S R : Fs} {P Q : Pt} (h : Good L (d + 1) S R) (hl : Like P Q) (s a : Int) (b : List Int) : (aProg R Q s a b).1 = (aProg S P s a b).1 ∧ Good L d (aProg S P s a b).2 (aProg R Q s a b).2 := by
  rw [← aProg_like hl R]
  have := aProg_sim h.sim P s a b
  exact ⟨this.1.symm, this.2, few_aProg h.fs _ _ _ _, few_aProg h.fr _ _ _ _, (aProg_wears _ _ _ _ _).1.trans h.wl⟩
theorem good_erase {L d : Nat} {S R : Fs} {P Q : Pt} (h : Good L (d + 1) S R) (hl : Like P Q) (s : Int) : (aErase R Q s).1 = (aErase S P s).1 ∧ Good L d (aErase S P s).2 (aErase R Q s).2 := by
  rw [← aErase_like hl R]
  have := aErase_sim h.sim P s
  exact ⟨this.1.symm, this.2, few_aErase h.fs _ _, few_aErase h.fr _ _, (aErase_wears _ _ _).1.trans h.wl⟩
theorem good_power {L d : Nat} {S R : Fs} (h : Good L d S R) : Good L d (power S) (power R) := ⟨power_sim h.sim, few_power h.fs, few_power h.fr, h.wl⟩
theorem good_cut {L d : Nat} {S R : Fs} (h : Good L d S R) (q : Int) (ms : List Int) (hd : d ≤ 1000) : Good L d (cutAt S (max q 0).toNat (ms.take S.mem.length)) (cutAt R (min (max q 0) 1073741824).toNat ms) :=
  ⟨cutAt_sim h.sim (by omega) ms, few_cut h.fs _ _, few_cut h.fr _ _, h.wl⟩
theorem good_left {L d : Nat} {S R : Fs} {P Q : Pt} (h : Good L d S R) (hl : Like P Q) (s : Int) : aLeft R Q s = aLeft S P s := by rw [← aLeft_like hl R, aLeft_sim h.sim]
theorem good_blank {L d : Nat} {S R : Fs} {P Q : Pt} (h : Good L d S R) (hl : Like P Q) (s : Int) : aBlank R Q s = aBlank S P s := by rw [← aBlank_like hl R, aBlank_sim h.sim]
theorem good_read {L d : Nat} {S R : Fs} {P Q : Pt} (h : Good L d S R) (hl : Like P Q) (s a n : Int) : aRead R Q s a n = aRead S P s a n := by rw [← aRead_like hl R, aRead_sim h.sim]
theorem good_dig {L d : Nat} {S R : Fs} {P Q : Pt} (h : Good L d S R) (hl : Like P Q) : aDig R Q = aDig S P := by rw [← aDig_like hl R, dRow_sim h.sim]
/-- What stands ahead of each call. -/
def Playing (w : World) (T g m k gr mr kr aa ba : Nat) (X Y : Nat → Nat) (P Q : Nat → Pt) (L len : Nat) (v : Value) (wr : World) : Prop :=
  ∃ (j : Nat) (S R : Fs), v = .int .i64 (j : Int) ∧ j ≤ len ∧ S.ops ≤ j ∧ Good L (len - j) S R ∧ Pl0 w T g m k gr mr kr aa ba X Y P Q S R wr
/-- Behind the switch. -/
def After (w : World) (T g m k gr mr kr aa ba : Nat) (X Y : Nat → Nat) (P Q : Nat → Pt) (L d ops ab : Nat) (cs : Array Value) (wx : World) : Prop :=
  ∃ S R, S.ops ≤ ops ∧ Good L d S R ∧ Pl0 w T g m k gr mr kr aa ba X Y P Q S R wx ∧ Has wx ab 38 cs
/-- The rest of a region, under a condition that says more. -/
theorem wpAnyH_strong {P : Program} {md : Region.Mode} {ops : Array Oper} {Q : Exit → Act → World → Prop} {S S' : World → Prop} (hs : ∀ w, S' w → S w) :
    ∀ (fuel : Nat) (listed : Array Bool) (a : Act) (w : World), wpAnyH P md ops Q S' fuel listed a w → wpAnyH P md ops Q S fuel listed a w
  | 0, _, _, _, h => h
  | fuel + 1, _, _, _, h => ⟨h.1, fun i hi => wpOp_mono (fun a' w' h' => ⟨hs w' h'.1, wpAnyH_strong hs fuel _ a' w' h'.2⟩) (h.2 i hi)⟩
/-- An append of a drawn region whose run is known. -/
theorem step_run {w : World} {ops : Array Oper} {o : Oper} {a : Act} {K : Act → World → Prop} {Q : Exit → Act → World → Prop} {E : Prop} (hw : Region.wanted o (yielded ops a.tmps) = true) (s x : Operand)
    (ho : o.op = .call { callee := .builtin .append, args := #[s, x], argTypes := #[36, 36] }) (t : TypeId) (hty : o.type = t) (v u v' : Value) (hs : a.eval s = v) (hx : a.eval x = u) {w' : World}
    (hrun : (Builtin.append_ #[36, 36] t #[v, u]).run Tryd.prog w = .ok v' w') (h : K (a.put o.dst v') w') :
    if Region.wanted o (yielded ops a.tmps) = true then Oper.wp Tryd.prog o a w K Q else E := by
  rw [if_pos hw]
  unfold Oper.wp execOp
  simp only [ho, hty, resolve, invoke, builtin, Sem.run_bind, Sem.run_pure, Result.andThen_ok, List.map_toArray, List.map_cons, List.map_nil, hs, hx, hrun]
  exact h
/-- A row of bytes as a text. -/
theorem conv_row {w : World} {a : Option Addr} {n c : Nat} {zs : List Int} (h : Row w a n zs) : (convert 36 9 (.slice a n c)).run Tryd.prog w = .ok (.string (strOfNums zs)) w := by
  by_cases hn : 0 < n
  · obtain ⟨b, off, rfl, _, hc⟩ := row_open h hn
    exact run_convert_bytes_arg w 36 5 Tryd.underlying36 Tryd.underlying5 b off n c zs h.1 hc 9 Tryd.underlying9
  · obtain rfl : n = 0 := by omega
    obtain rfl : zs = [] := List.eq_nil_of_length_eq_zero h.1
    cases a with
    | none => exact run_convert_bytes_nil w 36 5 Tryd.underlying36 Tryd.underlying5 0 c 9 Tryd.underlying9
    | some ad =>
      have hl : (loadCells ad 0).run Tryd.prog w = .ok (([] : List Int).map (Value.int .u8)).toArray w := run_loadCells_list (P := Tryd.prog) w ad [] (fun j v hj => by simp at hj)
      rw [run_convert_bytes_string w 36 9 5 _ 0 c Tryd.underlying36 Tryd.underlying5 Tryd.underlying9, run_bytesToString w _ 0 c [] hl]
      rfl
theorem cap_cells {w : World} {x : Nat} {r f l : Int} (h : Has w x 23 (capCells r f l)) : w.cell? ⟨x, 0, none⟩ = some (.int .i64 r) ∧ w.cell? ⟨x, 1, none⟩ = some (.int .i64 f) ∧ w.cell? ⟨x, 2, none⟩ = some (.int .i64 l) :=
  ⟨h.at 0, h.at 1, h.at 2⟩
end Go.Proofs.YtgignmjojlolfaaDoor
