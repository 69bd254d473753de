/-
  Words for the law SlotPlays: the calls that come in, two flashes with an area each, and that both answer alike; conditions: as each states.
-/
import Derived.Test.YtklhmneapegfpaaGreatDoorRt
import Derived.Test.YtklhmneapegfpaaGreatDoorAl
import Derived.Test.YtklhmneapegfpaaGreatDoorMAr
import Derived.Test.YtklhmneapegfpaaGreatDoorRdig
import Derived.Test.YtklhmneapegfpaaGreatDoorCut
import Derived.Test.YtklhmneapegfpaaGreatDoorLive
import Derived.Deep.Slices
import Derived.Deep.Fields
import Derived.Deep.CutRange
import Derived.Deep.CutBlock
import Derived.Deep.RegionHeld
import Derived.Laws.BytesArg
import Derived.ChangeOld
import Derived.OpenShut
namespace Go.Proofs.YtklhmneapegfpaaGreatDoor
open Go.ChangeShapes Go.WideShapes Go.ChangeAt Go.RowKit
set_option linter.unusedVariables false
set_option linter.unusedSimpArgs false

/-- A call as the law was handed it: six cells from o on, its two rows. -/
structure ActAt (w : World) (b o : Nat) (sl q n : Int) (BA : Option Addr) (BL BC : Nat) (bs : List Int) (MA : Option Addr) (ML MC : Nat) (ms : List Int) (cut : Bool) : Prop where
  c0 : w.cell? ⟨b, o, none⟩ = some (.int .i64 sl)
  c1 : w.cell? ⟨b, o + 1, none⟩ = some (.int .i64 q)
  c2 : w.cell? ⟨b, o + 2, none⟩ = some (.int .i64 n)
  c3 : w.cell? ⟨b, o + 3, none⟩ = some (.slice BA BL BC)
  c4 : w.cell? ⟨b, o + 4, none⟩ = some (.slice MA ML MC)
  c5 : w.cell? ⟨b, o + 5, none⟩ = some (.bool cut)
  i0 : I64 sl
  i1 : I64 q
  i2 : I64 n
  rb : Row w BA BL bs
  lb : BL ≤ BC
  rm : Row w MA ML ms
  lm : ML ≤ MC
theorem ActAt.kept {w w' : World} {b o : Nat} {sl q n : Int} {BA : Option Addr} {BL BC : Nat} {bs : List Int} {MA : Option Addr} {ML MC : Nat} {ms : List Int} {cut : Bool} (h : ActAt w b o sl q n BA BL BC bs MA ML MC ms cut) (hb : Below w.heap.size w w') : ActAt w' b o sl q n BA BL BC bs MA ML MC ms cut := by
  have hlt : b < w.heap.size := World.block_lt_of_cell? _ _ h.c0
  exact ⟨(hb.cell (p := ⟨b, o, none⟩) hlt).trans h.c0, (hb.cell (p := ⟨b, o + 1, none⟩) hlt).trans h.c1, (hb.cell (p := ⟨b, o + 2, none⟩) hlt).trans h.c2, (hb.cell (p := ⟨b, o + 3, none⟩) hlt).trans h.c3, (hb.cell (p := ⟨b, o + 4, none⟩) hlt).trans h.c4, (hb.cell (p := ⟨b, o + 5, none⟩) hlt).trans h.c5, h.i0, h.i1, h.i2, row_below hb h.rb, h.lb, row_below hb h.rm, h.lm⟩
/-- All of them. -/
def Acts (w : World) (a : Option Addr) (len : Nat) : Prop := len = 0 ∨ ∃ b off, a = some ⟨b, off, none⟩ ∧ ∀ i, i < len → ∃ sl q n BA BL BC bs MA ML MC ms cut, ActAt w b (off + i * 6) sl q n BA BL BC bs MA ML MC ms cut
/-- The call's own copy. -/
def actCells (sl q n : Int) (BA : Option Addr) (BL BC : Nat) (MA : Option Addr) (ML MC : Nat) (cut : Bool) : Array Value := #[.int .i64 sl, .int .i64 q, .int .i64 n, .slice BA BL BC, .slice MA ML MC, .bool cut]
theorem act_cells {w : World} {ab : Nat} {sl q n : Int} {BA : Option Addr} {BL BC : Nat} {MA : Option Addr} {ML MC : Nat} {cut : Bool} (h : Has w ab 36 (actCells sl q n BA BL BC MA ML MC cut)) :
    w.cell? ⟨ab, 0, none⟩ = some (.int .i64 sl) ∧ w.cell? ⟨ab, 1, none⟩ = some (.int .i64 q) ∧ w.cell? ⟨ab, 2, none⟩ = some (.int .i64 n) ∧ w.cell? ⟨ab, 3, none⟩ = some (.slice BA BL BC) ∧ w.cell? ⟨ab, 4, none⟩ = some (.slice MA ML MC) ∧ w.cell? ⟨ab, 5, none⟩ = some (.bool cut) :=
  ⟨h.at 0, h.at 1, h.at 2, h.at 3, h.at 4, h.at 5⟩
/-- A slice that was handed in does not lie in a flash that came later. -/
theorem clear_in {w : World} {g m k : Nat} {A : Option Addr} {n : Nat} {zs : List Int} (h : Row w A n zs) (hl : ∀ b, In3 g m k b → w.heap.size ≤ b) : Clear g m k A n := by
  rcases h.2.2 with h0 | ⟨b, off, rfl, hb, _⟩
  · exact .inl h0
  · exact .inr fun x hx e => by
      cases hx
      have := hl _ e
      simp only [] at this
      omega
theorem add_plain (b off i : Nat) : (⟨b, off, none⟩ : Addr).add i = ⟨b, off + i, none⟩ := by unfold Addr.add; split <;> simp_all
theorem plain_at {w : World} {a : Addr} {v : Value} (h : w.cell? (a.add 0) = some v) : ∃ b off, a = ⟨b, off, none⟩ := by
  obtain ⟨b, off, spot⟩ := a
  have hspot : spot = none := by simpa [Addr.add] using World.cell?_spot h
  subst hspot
  exact ⟨b, off, rfl⟩
/-- A number that came in. -/
theorem num_of {H : Type} {enc : TypeId × Value → H} {w : World} {n : Nat} {v : Value} {y : DataW H × List MemPlace} (h : DataW.trod enc Tryz.prog w 0 (fun _ => true) true n 3 [v] = some y) : ∃ i, v = .int .i64 i ∧ I64 i := by
  obtain ⟨i, e, _, hw⟩ := DataW.trod_int Tryz.underlying3 h
  simp only [List.cons.injEq, and_true] at e
  have := bounds_i64 hw
  exact ⟨i, e, by omega, by omega⟩
/-- A row that came in. -/
theorem bytes_of {H : Type} {enc : TypeId × Value → H} {w : World} {n : Nat} {v : Value} {y : DataW H × List MemPlace} (h : DataW.trod enc Tryz.prog w 0 (fun _ => true) true n 34 [v] = some y) : ∃ A L C zs, v = .slice A L C ∧ Row w A L zs ∧ L ≤ C := by
  rcases open_ints Tryz.underlying34 Tryz.underlying5 (by kernel_rfl) h with ⟨hcs, _⟩ | ⟨x, l, c, zs, hcs, _, hl, hm, hz, _, hcell, hwz⟩
  · simp only [List.cons.injEq, and_true] at hcs
    exact ⟨none, 0, 0, [], hcs, row_nil w, Nat.le_refl _⟩
  · simp only [List.cons.injEq, and_true] at hcs
    exact ⟨some x, l, c, zs.take l, hcs, row_of (cap := c) (.inr ⟨x, rfl, hl, hm, by simpa using hz, hcell, hwz⟩), hl⟩
/-- A bool that came in. -/
theorem flag_of {H : Type} {enc : TypeId × Value → H} {w : World} {n : Nat} {v : Value} {y : DataW H × List MemPlace} (h : DataW.trod enc Tryz.prog w 0 (fun _ => true) true n 4 [v] = some y) : ∃ b, v = .bool b := by
  obtain ⟨b, e, _⟩ := DataW.trod_bool Tryz.underlying4 h
  simp only [List.cons.injEq, and_true] at e
  exact ⟨b, e⟩
set_option maxRecDepth 100000 in
/-- The calls that came in. -/
theorem acts_of {H : Type} {enc : TypeId × Value → H} {w : World} {fuel : Nat} {a : Option Addr} {len cap : Nat} {x : DataW H × List MemPlace} (h : DataW.trod enc Tryz.prog w 0 (fun _ => true) true fuel 22 [.slice a len cap] = some x) : Acts w a len := by
  have h5 : Tryz.prog.cellsOf 36 = 6 := by kernel_rfl
  have e3 : Tryz.prog.cellsOf 3 = 1 := by kernel_rfl
  have e4 : Tryz.prog.cellsOf 4 = 1 := by kernel_rfl
  have e28 : Tryz.prog.cellsOf 34 = 1 := by kernel_rfl
  by_cases h0 : len = 0
  · exact .inl h0
  rcases Deep.open_slice Tryz.underlying22 h with ⟨hcs, _⟩ | ⟨p, l, c, m, n, D, Pl, hcs, _, hl, hm, hmm, _, hi⟩
  · simp only [List.cons.injEq, Value.slice.injEq, and_true] at hcs
    exact absurd hcs.2.1 h0
  · simp only [List.cons.injEq, Value.slice.injEq, and_true] at hcs
    obtain ⟨rfl, rfl, rfl⟩ := hcs
    rw [if_pos rfl] at hmm
    subst hmm
    rw [h5] at hi
    have each : ∀ i, i < len → ∃ v0 v1 v2 v3 v4 v5, (∀ j, j < 6 → w.cell? ((p.add (i * 6)).add j) = [v0, v1, v2, v3, v4, v5][j]?) ∧ (∃ k, v0 = .int .i64 k ∧ I64 k) ∧ (∃ k, v1 = .int .i64 k ∧ I64 k) ∧ (∃ k, v2 = .int .i64 k ∧ I64 k) ∧ (∃ A L C zs, v3 = .slice A L C ∧ Row w A L zs ∧ L ≤ C) ∧ (∃ A L C zs, v4 = .slice A L C ∧ Row w A L zs ∧ L ≤ C) ∧ (∃ b, v5 = .bool b) := by
      intro i hil
      obtain ⟨cs', hc, ht⟩ := hi i (by omega)
      obtain ⟨_, hcl, hat⟩ := World.cells?_some hc
      obtain ⟨xs, n', _, _, _, hxl, hf⟩ := DataW.trod_struct Tryz.underlying36 ht
      match cs', hcl, xs, hxl with
      | [v0, v1, v2, v3, v4, v5], _, [y0, y1, y2, y3, y4, y5], _ =>
        have f0 : DataW.trod enc Tryz.prog w 0 (fun _ => true) true n' 3 (List.take (Tryz.prog.cellsOf 3) [v0, v1, v2, v3, v4, v5]) = some y0 := hf 0 _ rfl
        have f1 : DataW.trod enc Tryz.prog w 0 (fun _ => true) true n' 3 (List.take (Tryz.prog.cellsOf 3) [v1, v2, v3, v4, v5]) = some y1 := hf 1 _ rfl
        have f2 : DataW.trod enc Tryz.prog w 0 (fun _ => true) true n' 3 (List.take (Tryz.prog.cellsOf 3) [v2, v3, v4, v5]) = some y2 := hf 2 _ rfl
        have f3 : DataW.trod enc Tryz.prog w 0 (fun _ => true) true n' 34 (List.take (Tryz.prog.cellsOf 34) [v3, v4, v5]) = some y3 := hf 3 _ rfl
        have f4 : DataW.trod enc Tryz.prog w 0 (fun _ => true) true n' 34 (List.take (Tryz.prog.cellsOf 34) [v4, v5]) = some y4 := hf 4 _ rfl
        have f5 : DataW.trod enc Tryz.prog w 0 (fun _ => true) true n' 4 (List.take (Tryz.prog.cellsOf 4) [v5]) = some y5 := hf 5 _ rfl
        rw [e3] at f0 f1 f2
        rw [e28] at f3 f4
        rw [e4] at f5
        exact ⟨v0, v1, v2, v3, v4, v5, hat, num_of (y := y0) f0, num_of (y := y1) f1, num_of (y := y2) f2, bytes_of (y := y3) f3, bytes_of (y := y4) f4, flag_of (y := y5) f5⟩
    obtain ⟨v0, v1, v2, v3, v4, v5, hat0, _⟩ := each 0 (by omega)
    have hc0 := hat0 0 (by omega)
    rw [Deep.add_add] at hc0
    obtain ⟨b, off, rfl⟩ := plain_at (v := v0) hc0
    refine .inr ⟨b, off, rfl, fun i hil => ?_⟩
    obtain ⟨v0, v1, v2, v3, v4, v5, hat, ⟨k0, rfl, i0⟩, ⟨k1, rfl, i1⟩, ⟨k2, rfl, i2⟩, ⟨A, L, C, zs, rfl, r1, l1⟩, ⟨A', L', C', zs', rfl, r2, l2⟩, ⟨bb, rfl⟩⟩ := each i hil
    have c0 := hat 0 (by omega)
    have c1 := hat 1 (by omega)
    have c2 := hat 2 (by omega)
    have c3 := hat 3 (by omega)
    have c4 := hat 4 (by omega)
    have c5 := hat 5 (by omega)
    rw [Deep.add_add, add_plain] at c0 c1 c2 c3 c4 c5
    exact ⟨k0, k1, k2, A, L, C, zs, A', L', C', zs', bb, c0, c1, c2, c3, c4, c5, i0, i1, i2, r1, l1, r2, l2⟩
/-! ### Both areas -/
/-- Both flashes, the area of each. -/
structure Pr0 (w : World) (T g m k gr mr kr x y : Nat) (P Q : Pt) (S R : Fs) (wx : World) : Prop where
  f : Fl wx T g m k S
  r : Rl wx T gr mr kr R
  a : Ar wx x g P
  b : Rar wx y gr Q
  low : Below w.heap.size w wx
  top : T ≤ wx.heap.size
/-- Where all lies. -/
structure PrAt (w : World) (T g m k gr mr kr x y : Nat) : Prop where
  lf : ∀ b, In3 g m k b → w.heap.size ≤ b ∧ b < T
  lr : ∀ b, In3 gr mr kr b → w.heap.size ≤ b ∧ b < T
  fr : ∀ b, In3 g m k b → ¬ In3 gr mr kr b
  x : T ≤ x
  y : T ≤ y
theorem Pr0.kept {w wx w' : World} {T g m k gr mr kr x y : Nat} {P Q : Pt} {S R : Fs} (h : Pr0 w T g m k gr mr kr x y P Q S R wx) (hb : Below wx.heap.size wx w') : Pr0 w T g m k gr mr kr x y P Q S R w' :=
  ⟨h.f.kept hb, h.r.kept hb, h.a.kept hb, h.b.kept hb, h.low.trans (hb.mono h.low.size), Nat.le_trans h.top hb.size⟩
theorem PrAt.nf {w : World} {T g m k gr mr kr x y : Nat} (q : PrAt w T g m k gr mr kr x y) {b : Nat} (hb : T ≤ b) : ¬ In3 g m k b := fun e => by have := (q.lf _ e).2; omega
theorem PrAt.nr {w : World} {T g m k gr mr kr x y : Nat} (q : PrAt w T g m k gr mr kr x y) {b : Nat} (hb : T ≤ b) : ¬ In3 gr mr kr b := fun e => by have := (q.lr _ e).2; omega
theorem Pr0.of_f {w wx w' : World} {T g m k gr mr kr x y : Nat} {P Q : Pt} {S R S' : Fs} (h : Pr0 w T g m k gr mr kr x y P Q S R wx) (q : PrAt w T g m k gr mr kr x y) (ht : FlTo T g m k S' wx w') : Pr0 w T g m k gr mr kr x y P Q S' R w' :=
  ⟨ht.1, h.r.only ht.2 (fun b hb => ⟨(q.lf b hb).2, q.fr b hb⟩), Has.only h.a ht.2 (q.nf q.x), Has.only h.b ht.2 (q.nf q.y), h.low.trans (ht.2.to_below h.low.size fun b hb => (q.lf b hb).1), Nat.le_trans h.top ht.2.size⟩
theorem Pr0.of_r {w wx w' : World} {T g m k gr mr kr x y : Nat} {P Q : Pt} {S R R' : Fs} (h : Pr0 w T g m k gr mr kr x y P Q S R wx) (q : PrAt w T g m k gr mr kr x y) (ht : RlTo T gr mr kr R' wx w') : Pr0 w T g m k gr mr kr x y P Q S R' w' :=
  ⟨h.f.only ht.2 (fun b hb => ⟨(q.lr b hb).2, fun x => q.fr b x hb⟩), ht.1, Has.only h.a ht.2 (q.nr q.x), Has.only h.b ht.2 (q.nr q.y), h.low.trans (ht.2.to_below h.low.size fun b hb => (q.lr b hb).1), Nat.le_trans h.top ht.2.size⟩
/-- The two answer alike for d operations. -/
structure Alike (L d : Nat) (S R : Fs) : Prop where
  sim : Sim d S R
  fs : Few S
  fr : Few R
  wl : S.wear.length = L
theorem Alike.less {L d d' : Nat} {S R : Fs} (h : Alike L d S R) (hd : d' ≤ d) : Alike L d' S R := ⟨h.sim.less hd, h.fs, h.fr, h.wl⟩
theorem Alike.wr {L d : Nat} {S R : Fs} (h : Alike L d S R) : R.wear.length = L := by rw [← h.sim.wear]; exact h.wl
theorem al_prog {L d : Nat} {S R : Fs} (h : Alike L (d + 1) S R) (a : Int) (b : List Int) : Alike L d (prog S a b).2 (prog R a b).2 :=
  ⟨(prog_sim h.sim a b).2, few_prog h.fs _ _, few_prog h.fr _ _, by rw [(prog_wears S a b).1]; exact h.wl⟩
theorem al_erase {L d : Nat} {S R : Fs} (h : Alike L (d + 1) S R) (s : Int) : Alike L d (erase S s).2 (erase R s).2 :=
  ⟨(erase_sim h.sim s).2, few_erase h.fs _, few_erase h.fr _, (erase_wears S s).1.trans h.wl⟩
theorem al_power {L d : Nat} {S R : Fs} (h : Alike L d S R) : Alike L d (power S) (power R) := ⟨power_sim h.sim, few_power h.fs, few_power h.fr, h.wl⟩
theorem al_cut {L d : Nat} {S R : Fs} (h : Alike L d S R) (q : Int) (ms : List Int) (hd : d ≤ 1000) : Alike L d (cutAt S (max q 0).toNat (ms.take S.mem.length)) (cutAt R (min (max q 0) 1073741824).toNat ms) :=
  ⟨cutAt_sim h.sim (by omega) ms, few_cut h.fs _ _, few_cut h.fr _ _, h.wl⟩
theorem has_free {S : Fs} {P : Pt} {s : Int} (h : freeS S P s = true) : P.has s := by
  unfold freeS aBlank aLeft at h
  by_cases hh : P.has s
  · exact hh
  · rw [if_neg hh, if_neg hh] at h
    cases h
theorem free_like {P Q : Pt} (h : Like P Q) (R : Fs) (s : Int) : freeS R Q s = freeS R P s := by unfold freeS; rw [aBlank_like h, aLeft_like h]
theorem write_like {P Q : Pt} (h : Like P Q) (R : Fs) (sl q c : Int) (zs : List Int) : writeW R Q sl q c zs = writeW R P sl q c zs := by
  by_cases h1 : atI sl q c = -1 ∨ 320 < zs.length
  · rw [write_out h1, write_out h1]
  · cases hf : freeS R P (atI sl q c) with
    | false => rw [write_worn h1 hf, write_worn h1 ((free_like h R _).trans hf)]
    | true => rw [h.of (has_free hf)]
theorem imgL_like {P Q : Pt} (h : Like P Q) (R : Fs) (sl n z : Int) : imgL R Q sl n z = imgL R P sl n z := by
  by_cases h0 : 0 < P.cnt
  · rw [h.2 h0]
  · have no : ∀ P : Pt, P.cnt = 0 → ¬ imgIn P sl n z := by
      rintro P hP ⟨h1, h2, h3, h4⟩
      have hi : inAt sl ((z - 1) / 320) n := ⟨h2.1, h2.2.1, by omega, by have := h2.2.1; omega⟩
      have := (at_is hi).1
      omega
    rw [img_no (no P (by omega)), img_no (no Q (by have := h.1; omega))]
theorem al_free {L d : Nat} {S R : Fs} {P Q : Pt} (h : Alike L d S R) (hl : Like P Q) (s : Int) : freeS R Q s = freeS S P s := by rw [free_like hl, free_sim h.sim]
theorem al_write {L d : Nat} {S R : Fs} {P Q : Pt} (h : Alike L (d + 2) S R) (hl : Like P Q) (sl q c : Int) (zs : List Int) : (writeW R Q sl q c zs).1 = (writeW S P sl q c zs).1 ∧ Alike L d (writeW S P sl q c zs).2 (writeW R Q sl q c zs).2 := by
  rw [write_like hl]
  have := write_sim h.sim P sl q c zs
  exact ⟨this.1.symm, this.2, few_write h.fs _ _ _ _ _, few_write h.fr _ _ _ _ _, (write_wears _ _ _ _ _ _).1.trans h.wl⟩
theorem al_img {L d : Nat} {S R : Fs} {P Q : Pt} (h : Alike L d S R) (hl : Like P Q) (sl n z : Int) : imgL R Q sl n z = imgL S P sl n z := by rw [imgL_like hl, imgL_sim h.sim]
theorem al_dig {L d : Nat} {S R : Fs} {P Q : Pt} (h : Alike L d S R) (hl : Like P Q) : aDig R Q = aDig S P := by rw [← aDig_like hl R, dRow_sim h.sim]
/-- What stands ahead of each call. -/
def Going (w : World) (T g m k gr mr kr x y : Nat) (P Q : Pt) (L len : Nat) (v : Value) (wr : World) : Prop :=
  ∃ (j : Nat) (S R : Fs), v = .int .i64 (j : Int) ∧ j ≤ len ∧ S.ops ≤ 2 * j ∧ Alike L (2 * (len - j)) S R ∧ Pr0 w T g m k gr mr kr x y P Q S R wr
end Go.Proofs.YtklhmneapegfpaaGreatDoor
