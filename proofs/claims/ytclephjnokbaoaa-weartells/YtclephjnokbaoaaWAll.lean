/-
  Several texts in one: RgA, RgE, PlR, WP, WC, WA; each says its own conditions.
-/
import Derived.Test.YtclephjnokbaoaaRgW
import Derived.Test.YtclephjnokbaoaaRgN
import Derived.Test.YtclephjnokbaoaaRgD
import Derived.Test.YtclephjnokbaoaaAbl
import Derived.Test.YtclephjnokbaoaaCut
import Derived.Deep.Slices
import Derived.Deep.Fields
import Derived.Deep.CutRange
import Derived.Deep.CutBlock
import Derived.Deep.RegionHeld
import Derived.Laws.BytesArg
import Derived.ChangeOld
import Derived.OpenShut
namespace Go.Proofs.Ytclephjnokbaoaa
open Go.RowKit
set_option linter.unusedVariables false
set_option linter.unusedSimpArgs false

theorem fill_wears (S : Fs) (P : Pt) (s : Nat) (c : List Int) : (fillS S P s c).2.wear.length = S.wear.length ∧ (fillS S P s c).2.ops ≤ S.ops + 2 := by
  have h1 := aErase_wears S P (s : Int)
  have h2 := aProg_wears S P (s : Int) 0 c
  have h3 := aProg_wears (aErase S P (s : Int)).2 P (s : Int) 0 c
  unfold fillS
  split
  · exact ⟨h2.1, by omega⟩
  · split
    · exact ⟨h1.1, by omega⟩
    · exact ⟨h3.1.trans h1.1, by omega⟩
theorem few_fill {S : Fs} (h : Few S) (P : Pt) (s : Nat) (c : List Int) : Few (fillS S P s c).2 := by
  unfold fillS
  split
  · exact few_aProg h _ _ _ _
  · split
    · exact few_aErase h _ _
    · exact few_aProg (few_aErase h _ _) _ _ _ _
theorem put_wears (S : Fs) (P : Pt) (zs : List Int) : (putR S P zs).2.wear.length = S.wear.length ∧ (putR S P zs).2.ops ≤ S.ops + 2 := by
  have h := fill_wears S P (hdOf S P).next (cellL ((hdOf S P).seq + 1) zs)
  unfold putR
  split
  · exact ⟨rfl, by simp only []; omega⟩
  · split
    · exact ⟨rfl, by simp only []; omega⟩
    · split
      · exact ⟨rfl, by simp only []; omega⟩
      · exact h
theorem few_put {S : Fs} (hf : Few S) (P : Pt) (zs : List Int) : Few (putR S P zs).2 := by
  have h := few_fill hf P (hdOf S P).next (cellL ((hdOf S P).seq + 1) zs)
  unfold putR
  split
  · exact hf
  · split
    · exact hf
    · split
      · exact hf
      · exact h
/-- A ring of the law's own. -/
structure Rg (w0 w : World) (T x g m k : Nat) (S : Fs) (P : Pt) : Prop where
  ar : Ar w x g P
  fl : Fl w T g m k S
  nin : ¬ In3 g m k x
  hx : w0.heap.size ≤ x
  hg : w0.heap.size ≤ g
  hm : w0.heap.size ≤ m
  hk : w0.heap.size ≤ k
  bel : Below w0.heap.size w0 w
  pok : P.Ok S.wear.length
  few : Few S
theorem Rg.kept {w0 w w' : World} {T x g m k : Nat} {S : Fs} {P : Pt} (h : Rg w0 w T x g m k S P) (b : Below w.heap.size w w') : Rg w0 w' T x g m k S P :=
  ⟨h.ar.kept b, h.fl.kept b, h.nin, h.hx, h.hg, h.hm, h.hk, h.bel.trans (b.mono h.bel.size), h.pok, h.few⟩
theorem Rg.lit {w0 w : World} {T x g m k : Nat} {S : Fs} {P : Pt} (h : Rg w0 w T x g m k S P) (o : Obj) : Rg w0 (w.alloc o) T x g m k S P := h.kept ((Below.refl _ w).alloc (Nat.le_refl _) o)
theorem Rg.drew {w0 w : World} {T x g m k : Nat} {S : Fs} {P : Pt} (h : Rg w0 w T x g m k S P) : Rg w0 w.drew T x g m k S P := h.kept (Below.refl _ w).drew
theorem Rg.to {w0 w w' : World} {T x g m k : Nat} {S S' : Fs} {P : Pt} (h : Rg w0 w T x g m k S P) (t : FlTo T g m k S' w w') (hw : S'.wear.length = S.wear.length) (hf : Few S') : Rg w0 w' T x g m k S' P :=
  ⟨Has.only h.ar t.2 h.nin, t.1, h.nin, h.hx, h.hg, h.hm, h.hk, h.bel.trans (t.2.to_below h.bel.size (by rintro b (rfl | rfl | rfl); exact h.hg; exact h.hm; exact h.hk)), by rw [hw]; exact h.pok, hf⟩
/-- What a Put leaves. -/
def PutTo (w0 : World) (T x g m k : Nat) (S : Fs) (P : Pt) (zs : List Int) (w : World) (e : Ending) (w' : World) : Prop :=
  e = .returned (.int .i64 (putR S P zs).1) ∧ Rg w0 w' T x g m k (putR S P zs).2 P ∧ Only (In3 g m k) w w'
theorem rg_may {w0 w : World} {T x g m k : Nat} {S : Fs} {P : Pt} (h : Rg w0 w T x g m k S P) (hops : S.ops ≤ 1000000) : Calls Try.prog 36 #[.pointer (some ⟨x, 0, none⟩)] w fun e w' => e = .returned (.bool (mayR S P)) ∧ Below w.heap.size w w' := mays_any w h.ar h.fl h.few hops h.pok
theorem rg_len (n : Nat) : (fresh n).wear.length = n := List.length_replicate
theorem made4 {b : Int} (h : 0 ≤ b ∧ b ≤ 1000) : Pt.made 4 0 4 b = ⟨0, 4, b.toNat⟩ := by
  unfold Pt.made
  rw [if_pos (by omega), show min (max b 0) 1000 = b by omega]
  rfl
/-- A ring of four sectors that is new. -/
theorem rg_made {w0 w1 w2 : World} {g m k x : Nat} {b : Int} (hb : 0 ≤ b ∧ b ≤ 1000) (hg : w0.heap.size ≤ g) (hm : w0.heap.size ≤ m) (hk : w0.heap.size ≤ k) (f1 : Fl w1 w1.heap.size g m k (fresh 4)) (b1 : Below w0.heap.size w0 w1)
    (hx : w1.heap.size ≤ x) (a2 : Ar w2 x g ⟨0, 4, b.toNat⟩) (b2 : Below w1.heap.size w1 w2) : Rg w0 w2 w1.heap.size x g m k (fresh 4) ⟨0, 4, b.toNat⟩ :=
  ⟨a2, f1.kept b2, fun e => by have := f1.lt e; omega, by have := b1.size; omega, hg, hm, hk, b1.trans (b2.mono b1.size), by rw [rg_len]; exact ⟨by simp, by omega, by simp only []; omega⟩, few_fresh 4⟩
theorem rn_made {b : Int} (hb : 0 ≤ b ∧ b ≤ 1000) (f : Nat → List Int) : Rn (fresh 4) ⟨0, 4, b.toNat⟩ f 0 := Rn.zero (by omega) ⟨by simp, by omega, by simp only []; omega⟩ (by simp) f
theorem sect4 : sect 4 = 4 := rfl
theorem i64_of {a : Int} (h : -1000000 ≤ a ∧ a ≤ 1000000) : I64 a := ⟨by omega, by omega⟩
theorem row_new (w : World) {x : Int} (hx : 0 ≤ x ∧ x ≤ 255) : Row (w.alloc (.cells #[.int .u8 x] 5)) (some ⟨w.heap.size, 0, none⟩) 1 [x] := row_text w [x] (fun y hy => by simp at hy; omega) 1 rfl (0, 0)
end Go.Proofs.Ytclephjnokbaoaa

namespace Go.Proofs.Ytclephjnokbaoaa
open Go.RowKit
set_option linter.unusedVariables false
set_option linter.unusedSimpArgs false

set_option maxRecDepth 100000 in
set_option maxHeartbeats 1000000 in
theorem rmay_any {T x g m k : Nat} {S : Fs} {P : Pt} (w : World) (ha : Rar w x g P) (hf : Rl w T g m k S) (hfew : Few S) (hops : S.ops ≤ 1000000) (hp : P.Ok S.wear.length) :
    Calls Try.prog 19 #[.pointer (some ⟨x, 0, none⟩)] w fun e w' => e = .returned (.bool (mayR S P)) ∧ Below w.heap.size w w' := by
  have HNx := Lib.hid (rnext_any w ha hf hp)
  have HA := Lib.hid ha
  have HF := Lib.hid hf
  have HP := Lib.hid hp
  have hq := hd_seq S P
  clear ha hf hp
  by_cases hc : 4 ≤ P.cnt
  · rw [mayR_yes hc]
    have c4 : (4 : Int) ≤ (P.cnt : Int) := by omega
    by_cases hs : (hdOf S P).seq < 2147483647
    · have hsq : Seq ((hdOf S P).seq + 1) := ⟨by omega, by omega⟩
      by_cases hbl : aBlank S P ((hdOf S P).next : Int) = true
      · rw [may_yes ⟨.inl hbl, hsq⟩]
        clear hsq hq hc
        go_enter Try.func19, Try.ntmps19
        go_wp2_with (first
          | (go_at_call 37; (with_reducible refine HNx.out.mono ?_); rintro e w1 ⟨rfl, H1⟩; clear HNx; have HFi := Lib.hid (rfind_any w1 (HA.out.kept H1) (HF.out.kept H1) HP.out))
          | (go_at_call 38; (with_reducible refine HFi.out.mono ?_); rintro e w2 ⟨v2, rfl, o2, H2⟩; clear HFi o2; have b2 := Lib.hid (belowThen H1 H2); obtain ⟨_, _, cc, _⟩ := ra_cells (HA.out.kept b2.out); have HBl := Lib.hid (rablank_any ((hdOf S P).next : Int) w2 (HA.out.kept b2.out) (HF.out.kept b2.out) HP.out); rw [hbl] at HBl)
          | (go_at_call 39; (with_reducible refine HBl.out.mono ?_); rintro e w3 ⟨rfl, H3⟩; clear HBl; have b3 := Lib.hid (belowThen b2.out H3)))
        go_ret
        exact ⟨rfl, b3.out⟩
      · replace hbl : aBlank S P ((hdOf S P).next : Int) = false := by simpa using hbl
        have hge : 0 ≤ aLeft S P ((hdOf S P).next : Int) := by unfold aLeft; split <;> omega
        by_cases hl : aLeft S P ((hdOf S P).next : Int) = 0
        · rw [may_no (fun h => h.1.elim (fun h => by rw [hbl] at h; cases h) (fun h => h hl))]
          have hl0 : ¬ 0 < aLeft S P ((hdOf S P).next : Int) := by omega
          clear hsq hq hc hge
          go_enter Try.func19, Try.ntmps19
          go_wp2_with (first
            | (go_at_call 37; (with_reducible refine HNx.out.mono ?_); rintro e w1 ⟨rfl, H1⟩; clear HNx; have HFi := Lib.hid (rfind_any w1 (HA.out.kept H1) (HF.out.kept H1) HP.out))
            | (go_at_call 38; (with_reducible refine HFi.out.mono ?_); rintro e w2 ⟨v2, rfl, o2, H2⟩; clear HFi o2; have b2 := Lib.hid (belowThen H1 H2); obtain ⟨_, _, cc, _⟩ := ra_cells (HA.out.kept b2.out); have HBl := Lib.hid (rablank_any ((hdOf S P).next : Int) w2 (HA.out.kept b2.out) (HF.out.kept b2.out) HP.out); rw [hbl] at HBl)
            | (go_at_call 39; (with_reducible refine HBl.out.mono ?_); rintro e w3 ⟨rfl, H3⟩; clear HBl; have b3 := Lib.hid (belowThen b2.out H3); have HLf := Lib.hid (rleft_any ((hdOf S P).next : Int) w3 (HA.out.kept b3.out) (HF.out.kept b3.out) hfew hops HP.out))
            | (go_at_call 35; (with_reducible refine HLf.out.mono ?_); rintro e w4 ⟨rfl, H4⟩; clear HLf; have b4 := Lib.hid (belowThen b3.out H4)))
          go_ret
          exact ⟨rfl, b4.out⟩
        · rw [may_yes ⟨.inr hl, hsq⟩]
          have hl0 : 0 < aLeft S P ((hdOf S P).next : Int) := by omega
          clear hsq hq hc hge hl
          go_enter Try.func19, Try.ntmps19
          go_wp2_with (first
            | (go_at_call 37; (with_reducible refine HNx.out.mono ?_); rintro e w1 ⟨rfl, H1⟩; clear HNx; have HFi := Lib.hid (rfind_any w1 (HA.out.kept H1) (HF.out.kept H1) HP.out))
            | (go_at_call 38; (with_reducible refine HFi.out.mono ?_); rintro e w2 ⟨v2, rfl, o2, H2⟩; clear HFi o2; have b2 := Lib.hid (belowThen H1 H2); obtain ⟨_, _, cc, _⟩ := ra_cells (HA.out.kept b2.out); have HBl := Lib.hid (rablank_any ((hdOf S P).next : Int) w2 (HA.out.kept b2.out) (HF.out.kept b2.out) HP.out); rw [hbl] at HBl)
            | (go_at_call 39; (with_reducible refine HBl.out.mono ?_); rintro e w3 ⟨rfl, H3⟩; clear HBl; have b3 := Lib.hid (belowThen b2.out H3); have HLf := Lib.hid (rleft_any ((hdOf S P).next : Int) w3 (HA.out.kept b3.out) (HF.out.kept b3.out) hfew hops HP.out))
            | (go_at_call 35; (with_reducible refine HLf.out.mono ?_); rintro e w4 ⟨rfl, H4⟩; clear HLf; have b4 := Lib.hid (belowThen b3.out H4)))
          go_ret
          exact ⟨rfl, b4.out⟩
    · rw [may_no (fun h => by have := h.2.2; omega)]
      clear hq hc
      go_enter Try.func19, Try.ntmps19
      go_wp2_with (first
        | (go_at_call 37; (with_reducible refine HNx.out.mono ?_); rintro e w1 ⟨rfl, H1⟩; clear HNx; have HFi := Lib.hid (rfind_any w1 (HA.out.kept H1) (HF.out.kept H1) HP.out))
        | (go_at_call 38; (with_reducible refine HFi.out.mono ?_); rintro e w2 ⟨v2, rfl, o2, H2⟩; clear HFi o2; have b2 := Lib.hid (belowThen H1 H2); obtain ⟨_, _, cc, _⟩ := ra_cells (HA.out.kept b2.out); skip))
      go_ret
      exact ⟨rfl, b2.out⟩
  · rw [mayR_no hc]
    have c4 : ¬ (4 : Int) ≤ (P.cnt : Int) := by omega
    clear hq hc
    go_enter Try.func19, Try.ntmps19
    go_wp2_with (first
      | (go_at_call 37; (with_reducible refine HNx.out.mono ?_); rintro e w1 ⟨rfl, H1⟩; clear HNx; have HFi := Lib.hid (rfind_any w1 (HA.out.kept H1) (HF.out.kept H1) HP.out))
      | (go_at_call 38; (with_reducible refine HFi.out.mono ?_); rintro e w2 ⟨v2, rfl, o2, H2⟩; clear HFi o2; have b2 := Lib.hid (belowThen H1 H2); obtain ⟨_, _, cc, _⟩ := ra_cells (HA.out.kept b2.out); skip))
    go_ret
    exact ⟨rfl, b2.out⟩
theorem Rl.lt {w : World} {T g m k : Nat} {S : Fs} (h : Rl w T g m k S) {b : Nat} (hb : In3 g m k b) : b < w.heap.size := by
  obtain ⟨_, _, _, _, _, a, _⟩ := h
  rcases hb with rfl | rfl | rfl
  · exact a.str.size
  · exact a.mem.size
  · exact a.wear.size
end Go.Proofs.Ytclephjnokbaoaa

namespace Go.Proofs.Ytclephjnokbaoaa
open Go.ChangeShapes Go.WideShapes Go.ChangeAt Go.RowKit
set_option linter.unusedVariables false
set_option linter.unusedSimpArgs false

/-- A call as the law was handed it: four cells from o on, its two rows. -/
structure ActAt (w : World) (b o : Nat) (way n : Int) (BA : Option Addr) (BL BC : Nat) (bs : List Int) (MA : Option Addr) (ML MC : Nat) (ms : List Int) : Prop where
  c0 : w.cell? ⟨b, o, none⟩ = some (.int .i64 way)
  c1 : w.cell? ⟨b, o + 1, none⟩ = some (.int .i64 n)
  c2 : w.cell? ⟨b, o + 2, none⟩ = some (.slice BA BL BC)
  c3 : w.cell? ⟨b, o + 3, none⟩ = some (.slice MA ML MC)
  i1 : I64 n
  rb : Row w BA BL bs
  lb : BL ≤ BC
  rm : Row w MA ML ms
  lm : ML ≤ MC
theorem ActAt.kept {w w' : World} {b o : Nat} {way n : Int} {BA : Option Addr} {BL BC : Nat} {bs : List Int} {MA : Option Addr} {ML MC : Nat} {ms : List Int} (h : ActAt w b o way n BA BL BC bs MA ML MC ms) (hb : Below w.heap.size w w') : ActAt w' b o way n BA BL BC bs MA ML MC ms := by
  have hlt : b < w.heap.size := World.block_lt_of_cell? _ _ h.c0
  exact ⟨(hb.cell (p := ⟨b, o, none⟩) hlt).trans h.c0, (hb.cell (p := ⟨b, o + 1, none⟩) hlt).trans h.c1, (hb.cell (p := ⟨b, o + 2, none⟩) hlt).trans h.c2, (hb.cell (p := ⟨b, o + 3, none⟩) hlt).trans h.c3, h.i1, row_below hb h.rb, h.lb, row_below hb h.rm, h.lm⟩
/-- All of them. -/
def Acts (w : World) (a : Option Addr) (len : Nat) : Prop := len = 0 ∨ ∃ b off, a = some ⟨b, off, none⟩ ∧ ∀ i, i < len → ∃ way n BA BL BC bs MA ML MC ms, ActAt w b (off + i * 4) way n BA BL BC bs MA ML MC ms
/-- The call's own copy. -/
def actCells (way q : Int) (BA : Option Addr) (BL BC : Nat) (MA : Option Addr) (ML MC : Nat) : Array Value := #[.int .i64 way, .int .i64 q, .slice BA BL BC, .slice MA ML MC]
theorem act_cells {w : World} {ab : Nat} {way q : Int} {BA : Option Addr} {BL BC : Nat} {MA : Option Addr} {ML MC : Nat} (h : Has w ab 36 (actCells way q BA BL BC MA ML MC)) :
    w.cell? ⟨ab, 0, none⟩ = some (.int .i64 way) ∧ w.cell? ⟨ab, 1, none⟩ = some (.int .i64 q) ∧ w.cell? ⟨ab, 2, none⟩ = some (.slice BA BL BC) ∧ w.cell? ⟨ab, 3, none⟩ = some (.slice MA ML MC) :=
  ⟨h.at 0, h.at 1, h.at 2, h.at 3⟩
/-- A slice that was handed in does not lie in a flash that came later. -/
theorem clear_in {w : World} {g m k : Nat} {A : Option Addr} {n : Nat} {zs : List Int} (h : Row w A n zs) (hl : ∀ b, In3 g m k b → w.heap.size ≤ b) : Clear g m k A n := by
  rcases h.2.2 with h0 | ⟨b, off, rfl, hb, _⟩
  · exact .inl h0
  · exact .inr fun x hx e => by
      cases hx
      have := hl _ e
      simp only [] at this
      omega
theorem add_plain (b off i : Nat) : (⟨b, off, none⟩ : Addr).add i = ⟨b, off + i, none⟩ := by unfold Addr.add; split <;> simp_all
theorem plain_at {w : World} {a : Addr} {v : Value} (h : w.cell? (a.add 0) = some v) : ∃ b off, a = ⟨b, off, none⟩ := by
  obtain ⟨b, off, spot⟩ := a
  have hspot : spot = none := by simpa [Addr.add] using World.cell?_spot h
  subst hspot
  exact ⟨b, off, rfl⟩
/-- A number that came in. -/
theorem num_of {H : Type} {enc : TypeId × Value → H} {w : World} {n : Nat} {v : Value} {y : DataW H × List MemPlace} (h : DataW.trod enc Try.prog w 0 (fun _ => true) true n 3 [v] = some y) : ∃ i, v = .int .i64 i ∧ I64 i := by
  obtain ⟨i, e, _, hw⟩ := DataW.trod_int Try.underlying3 h
  simp only [List.cons.injEq, and_true] at e
  have := bounds_i64 hw
  exact ⟨i, e, by omega, by omega⟩
/-- A row that came in. -/
theorem bytes_of {H : Type} {enc : TypeId × Value → H} {w : World} {n : Nat} {v : Value} {y : DataW H × List MemPlace} (h : DataW.trod enc Try.prog w 0 (fun _ => true) true n 38 [v] = some y) : ∃ A L C zs, v = .slice A L C ∧ Row w A L zs ∧ L ≤ C := by
  rcases open_ints Try.underlying38 Try.underlying5 (by kernel_rfl) h with ⟨hcs, _⟩ | ⟨x, l, c, zs, hcs, _, hl, hm, hz, _, hcell, hwz⟩
  · simp only [List.cons.injEq, and_true] at hcs
    exact ⟨none, 0, 0, [], hcs, row_nil w, Nat.le_refl _⟩
  · simp only [List.cons.injEq, and_true] at hcs
    exact ⟨some x, l, c, zs.take l, hcs, row_of (cap := c) (.inr ⟨x, rfl, hl, hm, by simpa using hz, hcell, hwz⟩), hl⟩
/-! ### Both rings -/
/-- Both flashes, the area of each. -/
structure Pr0 (w : World) (T g m k gr mr kr x y : Nat) (P Q : Pt) (S R : Fs) (wx : World) : Prop where
  f : Fl wx T g m k S
  r : Rl wx T gr mr kr R
  a : Ar wx x g P
  b : Rar wx y gr Q
  low : Below w.heap.size w wx
  top : T ≤ wx.heap.size
/-- Where all lies. -/
structure PrAt (w : World) (T g m k gr mr kr x y : Nat) : Prop where
  lf : ∀ b, In3 g m k b → w.heap.size ≤ b ∧ b < T
  lr : ∀ b, In3 gr mr kr b → w.heap.size ≤ b ∧ b < T
  fr : ∀ b, In3 g m k b → ¬ In3 gr mr kr b
  x : T ≤ x
  y : T ≤ y
theorem Pr0.kept {w wx w' : World} {T g m k gr mr kr x y : Nat} {P Q : Pt} {S R : Fs} (h : Pr0 w T g m k gr mr kr x y P Q S R wx) (hb : Below wx.heap.size wx w') : Pr0 w T g m k gr mr kr x y P Q S R w' :=
  ⟨h.f.kept hb, h.r.kept hb, h.a.kept hb, h.b.kept hb, h.low.trans (hb.mono h.low.size), Nat.le_trans h.top hb.size⟩
theorem PrAt.nf {w : World} {T g m k gr mr kr x y : Nat} (q : PrAt w T g m k gr mr kr x y) {b : Nat} (hb : T ≤ b) : ¬ In3 g m k b := fun e => by have := (q.lf _ e).2; omega
theorem PrAt.nr {w : World} {T g m k gr mr kr x y : Nat} (q : PrAt w T g m k gr mr kr x y) {b : Nat} (hb : T ≤ b) : ¬ In3 gr mr kr b := fun e => by have := (q.lr _ e).2; omega
theorem Pr0.of_f {w wx w' : World} {T g m k gr mr kr x y : Nat} {P Q : Pt} {S R S' : Fs} (h : Pr0 w T g m k gr mr kr x y P Q S R wx) (q : PrAt w T g m k gr mr kr x y) (ht : FlTo T g m k S' wx w') : Pr0 w T g m k gr mr kr x y P Q S' R w' :=
  ⟨ht.1, h.r.only ht.2 (fun b hb => ⟨(q.lf b hb).2, q.fr b hb⟩), Has.only h.a ht.2 (q.nf q.x), Has.only h.b ht.2 (q.nf q.y), h.low.trans (ht.2.to_below h.low.size fun b hb => (q.lf b hb).1), Nat.le_trans h.top ht.2.size⟩
theorem Pr0.of_r {w wx w' : World} {T g m k gr mr kr x y : Nat} {P Q : Pt} {S R R' : Fs} (h : Pr0 w T g m k gr mr kr x y P Q S R wx) (q : PrAt w T g m k gr mr kr x y) (ht : RlTo T gr mr kr R' wx w') : Pr0 w T g m k gr mr kr x y P Q S R' w' :=
  ⟨h.f.only ht.2 (fun b hb => ⟨(q.lr b hb).2, fun x => q.fr b x hb⟩), ht.1, Has.only h.a ht.2 (q.nr q.x), Has.only h.b ht.2 (q.nr q.y), h.low.trans (ht.2.to_below h.low.size fun b hb => (q.lr b hb).1), Nat.le_trans h.top ht.2.size⟩
/-- The two answer alike for d operations. -/
structure Alike (L d : Nat) (S R : Fs) : Prop where
  sim : Sim d S R
  fs : Few S
  fr : Few R
  wl : S.wear.length = L
theorem Alike.less {L d d' : Nat} {S R : Fs} (h : Alike L d S R) (hd : d' ≤ d) : Alike L d' S R := ⟨h.sim.less hd, h.fs, h.fr, h.wl⟩
theorem Alike.wr {L d : Nat} {S R : Fs} (h : Alike L d S R) : R.wear.length = L := by rw [← h.sim.wear]; exact h.wl
theorem al_prog {L d : Nat} {S R : Fs} (h : Alike L (d + 1) S R) (a : Int) (b : List Int) : Alike L d (prog S a b).2 (prog R a b).2 :=
  ⟨(prog_sim h.sim a b).2, few_prog h.fs _ _, few_prog h.fr _ _, by rw [(prog_wears S a b).1]; exact h.wl⟩
theorem al_erase {L d : Nat} {S R : Fs} (h : Alike L (d + 1) S R) (s : Int) : Alike L d (erase S s).2 (erase R s).2 :=
  ⟨(erase_sim h.sim s).2, few_erase h.fs _, few_erase h.fr _, (erase_wears S s).1.trans h.wl⟩
theorem al_power {L d : Nat} {S R : Fs} (h : Alike L d S R) : Alike L d (power S) (power R) := ⟨power_sim h.sim, few_power h.fs, few_power h.fr, h.wl⟩
theorem al_cut {L d : Nat} {S R : Fs} (h : Alike L d S R) (q : Int) (ms : List Int) (hd : d ≤ 1000) : Alike L d (cutAt S (max q 0).toNat (ms.take S.mem.length)) (cutAt R (min (max q 0) 1073741824).toNat ms) :=
  ⟨cutAt_sim h.sim (by omega) ms, few_cut h.fs _ _, few_cut h.fr _ _, h.wl⟩
theorem sec_sim {d : Nat} {S R : Fs} (h : Sim d S R) (P : Pt) (s : Nat) : secL S P s = secL R P s := aRead_sim h P _ _ _
theorem look_sim {d : Nat} {S R : Fs} (h : Sim d S R) (P : Pt) : ∀ k, look S P k = look R P k
  | 0 => rfl
  | k + 1 => by
    have ih := look_sim h P k
    have e := sec_sim h P k
    by_cases h1 : Newer S P (look S P k) k
    · have h2 : Newer R P (look R P k) k := by unfold Newer at *; rw [← ih, ← e]; exact h1
      rw [look_yes h1, look_yes h2, e]
    · have h2 : ¬ Newer R P (look R P k) k := by unfold Newer at *; rw [← ih, ← e]; exact h1
      rw [look_no h1, look_no h2, ih]
theorem hd_sim {d : Nat} {S R : Fs} (h : Sim d S R) (P : Pt) : hdOf S P = hdOf R P := by unfold hdOf; rw [look_sim h]
theorem may_sim {d : Nat} {S R : Fs} (h : Sim d S R) (P : Pt) : MayP S P ↔ MayP R P := by unfold MayP; rw [hd_sim h, aBlank_sim h, aLeft_sim h]
theorem fill_sim {d : Nat} {S R : Fs} (h : Sim (d + 2) S R) (P : Pt) (s : Nat) (c : List Int) : (fillS S P s c).1 = (fillS R P s c).1 ∧ Sim d (fillS S P s c).2 (fillS R P s c).2 := by
  have he := aErase_sim (d := d + 1) h P (s : Int)
  by_cases hb : aBlank S P (s : Int) = true
  · have hb' : aBlank R P (s : Int) = true := by rw [← aBlank_sim h]; exact hb
    rw [fill_blank hb, fill_blank hb']
    exact aProg_sim (h.less (by omega)) P _ _ _
  · have hb0 : aBlank S P (s : Int) = false := by simpa using hb
    have hb1 : aBlank R P (s : Int) = false := by rw [← aBlank_sim h]; exact hb0
    by_cases h0 : (aErase S P (s : Int)).1 = 0
    · rw [fill_two hb0 h0, fill_two hb1 (by rw [← he.1]; exact h0)]
      exact aProg_sim he.2 P _ _ _
    · rw [fill_err hb0 h0, fill_err hb1 (by rw [← he.1]; exact h0)]
      exact ⟨he.1, he.2.less (by omega)⟩
theorem put_sim {d : Nat} {S R : Fs} (h : Sim (d + 2) S R) (P : Pt) (zs : List Int) : (putR S P zs).1 = (putR R P zs).1 ∧ Sim d (putR S P zs).2 (putR R P zs).2 := by
  have hl := h.less (d' := d) (by omega)
  by_cases h4 : 4 ≤ P.cnt
  · by_cases hn : 156 < zs.length
    · rw [put_long h4 hn, put_long h4 hn]; exact ⟨rfl, hl⟩
    · by_cases hm : MayP S P
      · rw [put_does h4 (by omega) hm, put_does h4 (by omega) ((may_sim h P).1 hm), hd_sim h]
        exact fill_sim h P _ _
      · rw [put_worn h4 (by omega) hm, put_worn h4 (by omega) (fun k => hm ((may_sim h P).2 k))]; exact ⟨rfl, hl⟩
  · rw [put_few h4, put_few h4]; exact ⟨rfl, hl⟩
theorem hd_like {P Q : Pt} (h : Like P Q) (R : Fs) : hdOf R Q = hdOf R P := by
  by_cases h4 : 4 ≤ P.cnt
  · rw [h.2 (by omega)]
  · rw [hd_no h4, hd_no (by have := h.1; omega)]
theorem mayR_like {P Q : Pt} (h : Like P Q) (R : Fs) : mayR R Q = mayR R P := by
  by_cases h4 : 4 ≤ P.cnt
  · rw [h.2 (by omega)]
  · rw [mayR_no h4, mayR_no (by have := h.1; omega)]
theorem put_like {P Q : Pt} (h : Like P Q) (R : Fs) (zs : List Int) : putR R Q zs = putR R P zs := by
  by_cases h4 : 4 ≤ P.cnt
  · rw [h.2 (by omega)]
  · rw [put_few h4, put_few (by have := h.1; omega)]
theorem al_hd {L d : Nat} {S R : Fs} {P Q : Pt} (h : Alike L d S R) (hl : Like P Q) : hdOf R Q = hdOf S P := by rw [hd_like hl, hd_sim h.sim]
theorem al_may {L d : Nat} {S R : Fs} {P Q : Pt} (h : Alike L d S R) (hl : Like P Q) : mayR R Q = mayR S P := by
  rw [mayR_like hl]
  by_cases h4 : 4 ≤ P.cnt
  · rw [mayR_yes h4, mayR_yes h4]
    by_cases hm : MayP S P
    · rw [may_yes hm, may_yes ((may_sim h.sim P).1 hm)]
    · rw [may_no hm, may_no (fun k => hm ((may_sim h.sim P).2 k))]
  · rw [mayR_no h4, mayR_no h4]
theorem al_put {L d : Nat} {S R : Fs} {P Q : Pt} (h : Alike L (d + 2) S R) (hl : Like P Q) (zs : List Int) : (putR R Q zs).1 = (putR S P zs).1 ∧ Alike L d (putR S P zs).2 (putR R Q zs).2 := by
  rw [put_like hl]
  have := put_sim h.sim P zs
  exact ⟨this.1.symm, this.2, few_put h.fs _ _, few_put h.fr _ _, (put_wears _ _ _).1.trans h.wl⟩
/-- What stands ahead of each call. -/
def Going (w : World) (T g m k gr mr kr x y : Nat) (P Q : Pt) (L len : Nat) (v : Value) (wr : World) : Prop :=
  ∃ (j : Nat) (S R : Fs), v = .int .i64 (j : Int) ∧ j ≤ len ∧ S.ops ≤ 2 * j ∧ Alike L (2 * (len - j)) S R ∧ Pr0 w T g m k gr mr kr x y P Q S R wr
/-- Behind the switch. -/
def Behind (w : World) (T g m k gr mr kr x y : Nat) (P Q : Pt) (L d ops : Nat) (wx : World) : Prop :=
  ∃ S R, S.ops ≤ ops ∧ Alike L d S R ∧ Pr0 w T g m k gr mr kr x y P Q S R wx
end Go.Proofs.Ytclephjnokbaoaa

namespace Go.Proofs.Ytclephjnokbaoaa
open Go.RowKit
set_option linter.unusedVariables false
set_option linter.unusedSimpArgs false

/-- What the first k sectors have left. -/
def sumL (S : Fs) (P : Pt) : Nat → Int
  | 0 => 0
  | k + 1 => sumL S P k + aLeft S P (k : Int)
theorem left_rng (S : Fs) {P : Pt} (hf : Few S) (hb : P.bud ≤ 1000) (s : Int) : 0 ≤ aLeft S P s ∧ aLeft S P s ≤ 1000 := by
  have h := wear_few hf ((P.fst : Int) + s)
  unfold aLeft
  split <;> omega
theorem sum_rng (S : Fs) {P : Pt} (hf : Few S) (hb : P.bud ≤ 1000) : ∀ k, 0 ≤ sumL S P k ∧ sumL S P k ≤ 1000 * (k : Int)
  | 0 => by unfold sumL; omega
  | k + 1 => by
    have h1 := sum_rng S hf hb k
    have h2 := left_rng S hf hb (k : Int)
    unfold sumL
    omega
theorem sum_sim {d : Nat} {S R : Fs} (h : Sim d S R) (P : Pt) : ∀ k, sumL S P k = sumL R P k
  | 0 => rfl
  | k + 1 => by unfold sumL; rw [sum_sim h P k, aLeft_sim h]
theorem sum_like {P Q : Pt} (h : Like P Q) (S : Fs) : ∀ k, sumL S P k = sumL S Q k
  | 0 => rfl
  | k + 1 => by unfold sumL; rw [sum_like h S k, aLeft_like h]
/-- The n sectors from f on, of c ones. -/
def spanA (f n c : Int) : Int := if n ≤ 0 then 0 else if f < 0 then 0 else f
def spanE (f n c : Int) : Int := if n ≤ 0 then 0 else if f < 0 then min (f + n) c else f + min n (c - f)
/-- The best one of the first k sectors, of those from a on ahead of e; below 0: none. -/
def best (S : Fs) (P : Pt) (a e : Int) : Nat → Int
  | 0 => -1
  | k + 1 => if (a ≤ (k : Int) ∧ (k : Int) < e) ∧ (best S P a e k < 0 ∨ aLeft S P (best S P a e k) < aLeft S P (k : Int)) then (k : Int) else best S P a e k
theorem best_yes {S : Fs} {P : Pt} {a e : Int} {k : Nat} (h : (a ≤ (k : Int) ∧ (k : Int) < e) ∧ (best S P a e k < 0 ∨ aLeft S P (best S P a e k) < aLeft S P (k : Int))) : best S P a e (k + 1) = (k : Int) := if_pos h
theorem best_no {S : Fs} {P : Pt} {a e : Int} {k : Nat} (h : ¬ ((a ≤ (k : Int) ∧ (k : Int) < e) ∧ (best S P a e k < 0 ∨ aLeft S P (best S P a e k) < aLeft S P (k : Int)))) : best S P a e (k + 1) = best S P a e k := if_neg h
theorem best_rng (S : Fs) (P : Pt) (a e : Int) : ∀ k, -1 ≤ best S P a e k ∧ best S P a e k < (k : Int)
  | 0 => by unfold best; omega
  | k + 1 => by
    have h := best_rng S P a e k
    unfold best
    split <;> omega
theorem best_lo (S : Fs) (P : Pt) (a e : Int) : ∀ k : Nat, (k : Int) ≤ a → best S P a e k = -1
  | 0, _ => rfl
  | k + 1, h => by
    rw [best_no (fun x => by have := x.1.1; omega)]
    exact best_lo S P a e k (by omega)
theorem best_hi (S : Fs) (P : Pt) (a e : Int) (q : Nat) (hq : e ≤ (q : Int)) : ∀ d, best S P a e (q + d) = best S P a e q
  | 0 => rfl
  | d + 1 => by
    show best S P a e ((q + d) + 1) = _
    rw [best_no (fun x => by have := x.1.2; omega)]
    exact best_hi S P a e q hq d
theorem best_none (S : Fs) (P : Pt) (a e : Int) (h : e ≤ a) : ∀ k, best S P a e k = -1
  | 0 => rfl
  | k + 1 => by
    rw [best_no (fun x => by have := x.1; omega)]
    exact best_none S P a e h k
theorem best_sim {d : Nat} {S R : Fs} (h : Sim d S R) (P : Pt) (a e : Int) : ∀ k, best S P a e k = best R P a e k
  | 0 => rfl
  | k + 1 => by unfold best; rw [best_sim h P a e k, aLeft_sim h, aLeft_sim h]
theorem best_like {P Q : Pt} (h : Like P Q) (S : Fs) (a e : Int) : ∀ k, best S P a e k = best S Q a e k
  | 0 => rfl
  | k + 1 => by unfold best; rw [best_like h S a e k, aLeft_like h, aLeft_like h]
/-- The one that is told. -/
def leastN (S : Fs) (P : Pt) (f n : Int) : Int := best S P (spanA f n P.cnt) (spanE f n P.cnt) P.cnt
def leastV (S : Fs) (P : Pt) (f n : Int) : Value := .tuple (if leastN S P f n < 0 then #[.int .i64 0, .bool false] else #[.int .i64 (leastN S P f n), .bool true])
theorem least_sim {d : Nat} {S R : Fs} (h : Sim d S R) (P : Pt) (f n : Int) : leastN S P f n = leastN R P f n := best_sim h P _ _ _
theorem least_like {P Q : Pt} (h : Like P Q) (S : Fs) (f n : Int) : leastN S P f n = leastN S Q f n := by
  unfold leastN
  rw [h.1]
  exact best_like h S _ _ _
theorem span_in {f n c : Int} (i : Nat) (hc : (i : Int) < c) : (spanA f n c ≤ (i : Int) ∧ (i : Int) < spanE f n c) ↔ (0 < n ∧ f ≤ (i : Int) ∧ (i : Int) < f + n) := by
  unfold spanA spanE
  split
  · constructor
    · intro h; omega
    · intro h; omega
  · split
    · constructor
      · intro h; omega
      · intro h; omega
    · constructor
      · intro h; omega
      · intro h; omega
theorem span_small (f n : Int) {c : Int} (h : 0 ≤ c) : 0 ≤ spanA f n c ∧ spanE f n c ≤ c := by
  unfold spanA spanE
  split
  · omega
  · split <;> omega
end Go.Proofs.Ytclephjnokbaoaa

namespace Go.Proofs.Ytclephjnokbaoaa
open Go.RowKit
set_option linter.unusedVariables false
set_option linter.unusedSimpArgs false

theorem ret_val {v v' : Value} (h : v' = v) : Ending.returned v = .returned v' := by rw [h]
theorem ret_two {a b c d : Int} (h : a = c) (k : b = d) : Ending.returned (.tuple #[.int .i64 a, .int .i64 b]) = .returned (.tuple #[.int .i64 c, .int .i64 d]) := by rw [h, k]
theorem span_any (f n : Int) (c : Nat) (w : World) (hf : I64 f) (hn : I64 n) (hc : c ≤ 400) :
    Calls Try.prog 31 #[.int .i64 f, .int .i64 n, .int .i64 (c : Int)] w fun e w' => e = .returned (.tuple #[.int .i64 (spanA f n c), .int .i64 (spanE f n c)]) ∧ w = w' := by
  obtain ⟨f1, f2⟩ := hf
  obtain ⟨n1, n2⟩ := hn
  unfold spanA spanE
  by_cases h0 : n ≤ 0
  · rw [if_pos h0, if_pos h0]
    go_enter Try.func31, Try.ntmps31
    go_wp2
    go_ret2
    exact ⟨rfl, rfl⟩
  · rw [if_neg h0, if_neg h0]
    by_cases h1 : f < 0
    · rw [if_pos h1, if_pos h1]
      have q1 : IntKind.i64.wrap (f + n) = f + n := by rw [IntKind.wrap_i64]; omega
      by_cases hm : (c : Int) < f + n
      · go_enter Try.func31, Try.ntmps31
        go_wp2
        go_ret2
        exact ⟨ret_two rfl (by omega), rfl⟩
      · go_enter Try.func31, Try.ntmps31
        go_wp2
        go_ret2
        exact ⟨ret_two rfl (by omega), rfl⟩
    · rw [if_neg h1, if_neg h1]
      have q1 : IntKind.i64.wrap ((c : Int) - f) = (c : Int) - f := by rw [IntKind.wrap_i64]; omega
      by_cases hm : (c : Int) - f < n
      · have q2 : IntKind.i64.wrap (f + ((c : Int) - f)) = f + ((c : Int) - f) := by rw [IntKind.wrap_i64]; omega
        go_enter Try.func31, Try.ntmps31
        go_wp2
        go_ret2
        exact ⟨ret_two rfl (by omega), rfl⟩
      · have q2 : IntKind.i64.wrap (f + n) = f + n := by rw [IntKind.wrap_i64]; omega
        go_enter Try.func31, Try.ntmps31
        go_wp2
        go_ret2
        exact ⟨ret_two rfl (by omega), rfl⟩
/-- So many sectors are summed. -/
def Summed (S : Fs) (P : Pt) (w : World) (v i : Value) (wr : World) : Prop := ∃ k : Nat, v = .int .i64 (sumL S P k) ∧ i = .int .i64 (k : Int) ∧ k ≤ P.cnt ∧ Below w.heap.size w wr
set_option maxRecDepth 100000 in
theorem wsum_any {T x g m k : Nat} {S : Fs} {P : Pt} (w : World) (ha : Ar w x g P) (hf : Fl w T g m k S) (hfew : Few S) (hops : S.ops ≤ 1000000) (hp : P.Ok S.wear.length) :
    Calls Try.prog 16 #[.pointer (some ⟨x, 0, none⟩)] w fun e w' => e = .returned (.int .i64 (sumL S P P.cnt)) ∧ Below w.heap.size w w' := by
  have HL := Lib.hid (alen_any w ha)
  have HA := Lib.hid ha
  have HF := Lib.hid hf
  have HP := Lib.hid hp
  have h400 := hp.few
  have hcnt := hp.in'
  have hbu := hp.bud
  clear ha hf hp
  go_enter Try.func16, Try.ntmps16
  go_wp2_with (go_at_call 32; (with_reducible refine HL.out.mono ?_); rintro e w1 ⟨rfl, H1⟩; clear HL; have B1 := Lib.hid H1)
  have HS := Lib.hid (show Summed S P w (.int .i64 0) (.int .i64 0) w1 from ⟨0, rfl, rfl, Nat.zero_le _, B1.out⟩)
  clear H1 B1
  go_loopw [3, 7] (Summed S P w) (fun _ i _ => P.cnt - (intOf i).toNat)
  case atStart => exact HS.out
  case round =>
    clear HS
    obtain ⟨q, rfl, rfl, hq, hB⟩ := hrel
    have HB := Lib.hid hB
    by_cases hlt : q < P.cnt
    · have i1 : (q : Int) < (P.cnt : Int) := by omega
      have r1 := sum_rng S hfew hbu q
      have r2 := left_rng S (P := P) hfew hbu (q : Int)
      have q1 : IntKind.i64.wrap ((q : Int) + 1) = (q : Int) + 1 := by rw [IntKind.wrap_i64]; omega
      have q2 : IntKind.i64.wrap (sumL S P q + aLeft S P (q : Int)) = sumL S P q + aLeft S P (q : Int) := by rw [IntKind.wrap_i64]; omega
      have HLf := Lib.hid (left_any (q : Int) _ (HA.out.kept HB.out) (HF.out.kept HB.out) hfew hops HP.out)
      clear hB r1 r2
      go_wp2_with (go_at_call 33; (with_reducible refine HLf.out.mono ?_); rintro e w2 ⟨rfl, H2⟩; clear HLf)
      go_roundw
      case rel => exact ⟨q + 1, rfl, by simp, by omega, HB.out.trans (H2.mono HB.out.size)⟩
      case measure => simp only [intOf]; omega
    · obtain rfl : q = P.cnt := by omega
      have i1 : ¬ (P.cnt : Int) < (P.cnt : Int) := by omega
      clear hB
      go_wp2
      go_ret
      exact ⟨rfl, HB.out⟩
theorem wsum_nil (w : World) : Calls Try.prog 16 #[.pointer none] w fun e w' => e = .returned (.int .i64 0) ∧ Below w.heap.size w w' := by
  go_enter Try.func16, Try.ntmps16
  go_wp2_with (go_at_call 32; (with_reducible refine (alen_nil _).mono ?_); rintro e w1 ⟨rfl, H1⟩)
  go_loopw [3, 7] (fun v i wr => v = .int .i64 0 ∧ i = .int .i64 0 ∧ wr = w1) (fun _ _ _ => 0)
  case atStart => exact ⟨rfl, rfl, rfl⟩
  case round =>
    obtain ⟨rfl, rfl, rfl⟩ := hrel
    go_wp2
    go_ret
    exact ⟨rfl, H1⟩
set_option maxRecDepth 100000 in
theorem rwsum_any {T x g m k : Nat} {S : Fs} {P : Pt} (w : World) (ha : Rar w x g P) (hf : Rl w T g m k S) (hfew : Few S) (hops : S.ops ≤ 1000000) (hp : P.Ok S.wear.length) :
    Calls Try.prog 17 #[.pointer (some ⟨x, 0, none⟩)] w fun e w' => e = .returned (.int .i64 (sumL S P P.cnt)) ∧ Below w.heap.size w w' := by
  have HA := Lib.hid ha
  have HF := Lib.hid hf
  have HP := Lib.hid hp
  have h400 := hp.few
  have hcnt := hp.in'
  have hbu := hp.bud
  have HS := Lib.hid (show Summed S P w (.int .i64 0) (.int .i64 0) w from ⟨0, rfl, rfl, Nat.zero_le _, Below.refl _ _⟩)
  clear ha hf hp
  go_enter Try.func17, Try.ntmps17
  go_wp2_with fail
  go_loopw [3, 4] (Summed S P w) (fun _ i _ => P.cnt - (intOf i).toNat)
  case atStart => exact HS.out
  case round =>
    clear HS
    obtain ⟨q, rfl, rfl, hq, hB⟩ := hrel
    have HB := Lib.hid hB
    have HLe := Lib.hid (ralen_any _ (HA.out.kept HB.out))
    by_cases hlt : q < P.cnt
    · have i1 : (q : Int) < (P.cnt : Int) := by omega
      have r1 := sum_rng S hfew hbu q
      have r2 := left_rng S (P := P) hfew hbu (q : Int)
      have q1 : IntKind.i64.wrap ((q : Int) + 1) = (q : Int) + 1 := by rw [IntKind.wrap_i64]; omega
      have q2 : IntKind.i64.wrap (sumL S P q + aLeft S P (q : Int)) = sumL S P q + aLeft S P (q : Int) := by rw [IntKind.wrap_i64]; omega
      have HLf := Lib.hid (rleft_any (q : Int) _ (HA.out.kept HB.out) (HF.out.kept HB.out) hfew hops HP.out)
      clear hB r1 r2
      go_wp2_with (first
        | (go_at_call 34; (with_reducible refine HLe.out.mono ?_); rintro e w2 ⟨rfl, rfl⟩; clear HLe)
        | (go_at_call 35; (with_reducible refine HLf.out.mono ?_); rintro e w2 ⟨rfl, H2⟩; clear HLf))
      go_roundw
      case rel => exact ⟨q + 1, rfl, by simp, by omega, HB.out.trans (H2.mono HB.out.size)⟩
      case measure => simp only [intOf]; omega
    · obtain rfl : q = P.cnt := by omega
      have i1 : ¬ (P.cnt : Int) < (P.cnt : Int) := by omega
      clear hB
      go_wp2_with (go_at_call 34; (with_reducible refine HLe.out.mono ?_); rintro e w2 ⟨rfl, rfl⟩; clear HLe)
      go_ret
      exact ⟨rfl, HB.out⟩
theorem spent_any {T x g m k : Nat} {S : Fs} {P : Pt} (w : World) (ha : Ar w x g P) (hf : Fl w T g m k S) (hfew : Few S) (hops : S.ops ≤ 1000000) (hp : P.Ok S.wear.length) :
    Calls Try.prog 18 #[.pointer (some ⟨x, 0, none⟩)] w fun e w' => e = .returned (.bool (!mayR S P)) ∧ Below w.heap.size w w' := by
  have HM := Lib.hid (mays_any w ha hf hfew hops hp)
  clear ha hf hp
  go_enter Try.func18, Try.ntmps18
  go_wp2_with (go_at_call 36; (with_reducible refine HM.out.mono ?_); rintro e w1 ⟨rfl, H1⟩; clear HM)
  go_ret
  exact ⟨rfl, H1⟩
/-- The program's sectors from the first one on are looked at up to q. -/
def Best (S : Fs) (P : Pt) (a e : Int) (w : World) (v i : Value) (wr : World) : Prop := ∃ q : Nat, v = .int .i64 (best S P a e q) ∧ i = .int .i64 (q : Int) ∧ a < (q : Int) ∧ (q : Int) ≤ e ∧ Below w.heap.size w wr
set_option maxRecDepth 100000 in
theorem least_any {T x g m k : Nat} {S : Fs} {P : Pt} (f n : Int) (w : World) (ha : Ar w x g P) (hf : Fl w T g m k S) (hfew : Few S) (hops : S.ops ≤ 1000000) (hp : P.Ok S.wear.length) (hif : I64 f) (hin : I64 n) :
    Calls Try.prog 14 #[.pointer (some ⟨x, 0, none⟩), .int .i64 f, .int .i64 n] w fun e w' => e = .returned (leastV S P f n) ∧ Below w.heap.size w w' := by
  have HL := Lib.hid (alen_any w ha)
  have HA := Lib.hid ha
  have HF := Lib.hid hf
  have HP := Lib.hid hp
  have h400 := hp.few
  have hcnt := hp.in'
  have hsm := span_small f n (c := (P.cnt : Int)) (by omega)
  have HLV := Lib.hid (show leastV S P f n = .tuple (if best S P (spanA f n P.cnt) (spanE f n P.cnt) P.cnt < 0 then #[.int .i64 0, .bool false] else #[.int .i64 (best S P (spanA f n P.cnt) (spanE f n P.cnt) P.cnt), .bool true]) from rfl)
  have HSp := Lib.hid (fun w => span_any f n P.cnt w hif hin (by omega))
  clear ha hf hp hif hin
  obtain ⟨a, ea⟩ : ∃ a, spanA f n (P.cnt : Int) = a := ⟨_, rfl⟩
  obtain ⟨e, ee⟩ : ∃ e, spanE f n (P.cnt : Int) = e := ⟨_, rfl⟩
  rw [ea, ee] at HSp HLV
  rw [ea, ee] at hsm
  clear ea ee
  obtain ⟨A, rfl⟩ := Int.eq_ofNat_of_zero_le hsm.1
  by_cases hlt : (A : Int) < e
  · obtain ⟨E, rfl⟩ := Int.eq_ofNat_of_zero_le (show 0 ≤ e by omega)
    have i0 : ¬ (E : Int) ≤ (A : Int) := by omega
    have i0n : ¬ E ≤ A := by omega
    have i0d : decide (E ≤ A) = false := by simp; omega
    have q0 : IntKind.i64.wrap ((A : Int) + 1) = (A : Int) + 1 := by rw [IntKind.wrap_i64]; omega
    have hAE : A < E := by omega
    have hE : E ≤ P.cnt := by omega
    have hb0 : best S P A E (A + 1) = A := best_yes ⟨⟨by omega, by omega⟩, .inl (by rw [best_lo _ _ _ _ _ (Int.le_refl _)]; omega)⟩
    have HB0 := Lib.hid hb0
    clear hsm hlt hb0
    go_enter Try.func14, Try.ntmps14
    go_wp2_with (first
      | (go_at_call 32; (with_reducible refine HL.out.mono ?_); rintro e w1 ⟨rfl, H1⟩; clear HL; have B1 := Lib.hid H1)
      | (go_at_call 31; (with_reducible refine (HSp.out _).mono ?_); rintro e w2 ⟨rfl, rfl⟩; clear HSp))
    have HS := Lib.hid (show Best S P A E w (.int .i64 A) (.int .i64 ((A : Int) + 1)) w1 from ⟨A + 1, by rw [HB0.out], by simp, by omega, by omega, B1.out⟩)
    clear H1 B1 q0
    go_loopw [10, 11] (Best S P A E w) (fun _ i _ => E - (intOf i).toNat)
    case atStart => exact HS.out
    case round =>
      clear HS
      obtain ⟨q, rfl, rfl, haq, hqe, hB⟩ := hrel
      have HB := Lib.hid hB
      have hge : 0 ≤ best S P A E q := by
        obtain ⟨d, rfl⟩ : ∃ d, q = A + 1 + d := ⟨q - (A + 1), by omega⟩
        clear haq hqe
        induction d with
        | zero => rw [show A + 1 + 0 = A + 1 from rfl, HB0.out]; omega
        | succ d ih =>
          have ih := ih
          show 0 ≤ best S P A E (A + 1 + d + 1)
          by_cases h : ((A : Int) ≤ ((A + 1 + d : Nat) : Int) ∧ ((A + 1 + d : Nat) : Int) < (E : Int)) ∧ (best S P A E (A + 1 + d) < 0 ∨ aLeft S P (best S P A E (A + 1 + d)) < aLeft S P ((A + 1 + d : Nat) : Int))
          · rw [best_yes h]; omega
          · rw [best_no h]; exact ih
      by_cases hlt : q < E
      · have i1 : (q : Int) < (E : Int) := by omega
        have q1 : IntKind.i64.wrap ((q : Int) + 1) = (q : Int) + 1 := by rw [IntKind.wrap_i64]; omega
        have HL1 := Lib.hid (left_any (q : Int) _ (HA.out.kept HB.out) (HF.out.kept HB.out) hfew hops HP.out)
        by_cases hbt : aLeft S P (best S P A E q) < aLeft S P (q : Int)
        · have HN := Lib.hid (best_yes (S := S) (P := P) (a := A) (e := E) (k := q) ⟨⟨by omega, by omega⟩, .inr hbt⟩)
          clear hB hge
          go_wp2_with (first
            | (go_at_call 33; (with_reducible refine HL1.out.mono ?_); rintro e w2 ⟨rfl, H2⟩; have B2 := Lib.hid (HB.out.trans (H2.mono HB.out.size)); have HL2 := Lib.hid (left_any (best S P A E q) w2 (HA.out.kept B2.out) (HF.out.kept B2.out) hfew hops HP.out); clear HL1)
            | (go_at_call 33; (with_reducible refine HL2.out.mono ?_); rintro e w3 ⟨rfl, H3⟩; clear HL2))
          go_roundw
          case rel => exact ⟨q + 1, by rw [HN.out], by simp, by omega, by omega, B2.out.trans (H3.mono B2.out.size)⟩
          case measure => simp only [intOf]; omega
        · have HN := Lib.hid (best_no (S := S) (P := P) (a := A) (e := E) (k := q) (fun h => h.2.elim (fun h => by omega) hbt))
          clear hB hge
          go_wp2_with (first
            | (go_at_call 33; (with_reducible refine HL1.out.mono ?_); rintro e w2 ⟨rfl, H2⟩; have B2 := Lib.hid (HB.out.trans (H2.mono HB.out.size)); have HL2 := Lib.hid (left_any (best S P A E q) w2 (HA.out.kept B2.out) (HF.out.kept B2.out) hfew hops HP.out); clear HL1)
            | (go_at_call 33; (with_reducible refine HL2.out.mono ?_); rintro e w3 ⟨rfl, H3⟩; clear HL2))
          go_roundw
          case rel => exact ⟨q + 1, by rw [HN.out], by simp, by omega, by omega, B2.out.trans (H3.mono B2.out.size)⟩
          case measure => simp only [intOf]; omega
      · obtain rfl : q = E := by omega
        have i1 : ¬ (q : Int) < (q : Int) := by omega
        have hbe : best S P A q P.cnt = best S P A q q := by
          obtain ⟨d, hd⟩ : ∃ d, P.cnt = q + d := ⟨P.cnt - q, by omega⟩
          rw [hd]; exact best_hi S P A q q (Int.le_refl _) d
        have HE := HLV.out
        rw [hbe, if_neg (by omega)] at HE
        clear hB hge hbe
        go_wp2
        go_ret2
        first | exact ⟨ret_val HE, HB.out⟩ | exact ⟨rfl, HB.out⟩
  · have i0 : e ≤ (A : Int) := by omega
    have HE := HLV.out
    rw [best_none _ _ _ _ i0, if_pos (by omega)] at HE
    clear hsm hlt
    go_enter Try.func14, Try.ntmps14
    go_wp2_with (first
      | (go_at_call 32; (with_reducible refine HL.out.mono ?_); rintro e w1 ⟨rfl, H1⟩; clear HL; have B1 := Lib.hid H1)
      | (go_at_call 31; (with_reducible refine (HSp.out _).mono ?_); rintro e w2 ⟨rfl, rfl⟩; clear HSp))
    go_ret2
    first | exact ⟨ret_val HE, B1.out⟩ | exact ⟨rfl, B1.out⟩
/-- The document's sectors are looked at up to q. -/
def Rbest (S : Fs) (P : Pt) (a e : Int) (w : World) (v i : Value) (wr : World) : Prop := ∃ q : Nat, v = .int .i64 (best S P a e q) ∧ i = .int .i64 (q : Int) ∧ q ≤ P.cnt ∧ Below w.heap.size w wr
set_option maxRecDepth 100000 in
set_option maxHeartbeats 1000000 in
theorem rleast_any {T x g m k : Nat} {S : Fs} {P : Pt} (f n : Int) (w : World) (ha : Rar w x g P) (hf : Rl w T g m k S) (hfew : Few S) (hops : S.ops ≤ 1000000) (hp : P.Ok S.wear.length) (hif : I64 f) (hin : I64 n) :
    Calls Try.prog 15 #[.pointer (some ⟨x, 0, none⟩), .int .i64 f, .int .i64 n] w fun e w' => e = .returned (leastV S P f n) ∧ Below w.heap.size w w' := by
  have HA := Lib.hid ha
  have HF := Lib.hid hf
  have HP := Lib.hid hp
  have h400 := hp.few
  have hcnt := hp.in'
  have HLV := Lib.hid (show leastV S P f n = .tuple (if best S P (spanA f n P.cnt) (spanE f n P.cnt) P.cnt < 0 then #[.int .i64 0, .bool false] else #[.int .i64 (best S P (spanA f n P.cnt) (spanE f n P.cnt) P.cnt), .bool true]) from rfl)
  have HIN := Lib.hid (fun (i : Nat) (h : (i : Int) < (P.cnt : Int)) => span_in (f := f) (n := n) i h)
  obtain ⟨f1, f2⟩ := hif
  obtain ⟨n1, n2⟩ := hin
  obtain ⟨a, ea⟩ : ∃ a, spanA f n (P.cnt : Int) = a := ⟨_, rfl⟩
  obtain ⟨e, ee⟩ : ∃ e, spanE f n (P.cnt : Int) = e := ⟨_, rfl⟩
  rw [ea, ee] at HIN HLV
  have HS := Lib.hid (show Rbest S P a e w (.int .i64 (-1)) (.int .i64 0) w from ⟨0, rfl, rfl, Nat.zero_le _, Below.refl _ _⟩)
  clear ha hf hp ea ee
  go_enter Try.func15, Try.ntmps15
  go_wp2_with fail
  go_loopw [8, 9] (Rbest S P a e w) (fun _ i _ => P.cnt - (intOf i).toNat)
  case atStart => exact HS.out
  case round =>
    clear HS
    obtain ⟨q, rfl, rfl, hq, hB⟩ := hrel
    have HB := Lib.hid hB
    have HLe := Lib.hid (ralen_any _ (HA.out.kept HB.out))
    have hbr := best_rng S P a e q
    obtain ⟨b, eb⟩ : ∃ b, b = best S P a e q := ⟨_, rfl⟩
    clear hB
    by_cases hlt : q < P.cnt
    · have i1 : (q : Int) < (P.cnt : Int) := by omega
      have q1 : IntKind.i64.wrap ((q : Int) + 1) = (q : Int) + 1 := by rw [IntKind.wrap_i64]; omega
      have hin := HIN.out q i1
      have HL1 := Lib.hid (rleft_any (q : Int) _ (HA.out.kept HB.out) (HF.out.kept HB.out) hfew hops HP.out)
      have HL2 := Lib.hid (fun w2 (B2 : Below w.heap.size w w2) => rleft_any (best S P a e q) w2 (HA.out.kept B2) (HF.out.kept B2) hfew hops HP.out)
      by_cases hf0 : f < 0
      · have g1 : f ≤ (q : Int) := by omega
        by_cases hn0 : 0 < n
        · have q2 : IntKind.i64.wrap (n + f) = n + f := by rw [IntKind.wrap_i64]; omega
          by_cases hi : (q : Int) < n + f
          · skip
            have hio := hin.2 ⟨by omega, by omega, by omega⟩
            by_cases hneg : best S P a e q < 0
            · have HN := Lib.hid (best_yes (S := S) (P := P) (a := a) (e := e) (k := q) ⟨hio, .inl hneg⟩)
              clear hin hio eb hbr
              go_wp2_with (first
                | (go_at_call 34; (with_reducible refine HLe.out.mono ?_); rintro e w2 ⟨rfl, rfl⟩; clear HLe))
              go_roundw
              case rel => exact ⟨q + 1, by rw [HN.out], by simp, by omega, HB.out⟩
              case measure => simp only [intOf]; omega
            · by_cases hbt : aLeft S P (best S P a e q) < aLeft S P (q : Int)
              · have HN := Lib.hid (best_yes (S := S) (P := P) (a := a) (e := e) (k := q) ⟨hio, .inr hbt⟩)
                clear hin hio eb hbr
                go_wp2_with (first
                  | (go_at_call 34; (with_reducible refine HLe.out.mono ?_); rintro e w2 ⟨rfl, rfl⟩; clear HLe)
                  | (go_at_call 35; (with_reducible refine HL1.out.mono ?_); rintro e w3 ⟨rfl, H3⟩; have B3 := Lib.hid (HB.out.trans (H3.mono HB.out.size)); have HL3 := Lib.hid (HL2.out _ B3.out); clear HL1 HL2)
                  | (go_at_call 35; (with_reducible refine HL3.out.mono ?_); rintro e w4 ⟨rfl, H4⟩; clear HL3))
                go_roundw
                case rel => exact ⟨q + 1, by rw [HN.out], by simp, by omega, B3.out.trans (H4.mono B3.out.size)⟩
                case measure => simp only [intOf]; omega
              · have HN := Lib.hid (best_no (S := S) (P := P) (a := a) (e := e) (k := q) (fun h => h.2.elim hneg hbt))
                clear hin hio eb hbr
                go_wp2_with (first
                  | (go_at_call 34; (with_reducible refine HLe.out.mono ?_); rintro e w2 ⟨rfl, rfl⟩; clear HLe)
                  | (go_at_call 35; (with_reducible refine HL1.out.mono ?_); rintro e w3 ⟨rfl, H3⟩; have B3 := Lib.hid (HB.out.trans (H3.mono HB.out.size)); have HL3 := Lib.hid (HL2.out _ B3.out); clear HL1 HL2)
                  | (go_at_call 35; (with_reducible refine HL3.out.mono ?_); rintro e w4 ⟨rfl, H4⟩; clear HL3))
                go_roundw
                case rel => exact ⟨q + 1, by rw [HN.out], by simp, by omega, B3.out.trans (H4.mono B3.out.size)⟩
                case measure => simp only [intOf]; omega
          · skip
            have HN := Lib.hid (best_no (S := S) (P := P) (a := a) (e := e) (k := q) (fun h => by have := hin.1 h.1; omega))
            clear hin eb hbr
            go_wp2_with (first
              | (go_at_call 34; (with_reducible refine HLe.out.mono ?_); rintro e w2 ⟨rfl, rfl⟩; clear HLe))
            go_roundw
            case rel => exact ⟨q + 1, by rw [HN.out], by simp, by omega, HB.out⟩
            case measure => simp only [intOf]; omega
        · skip
          have HN := Lib.hid (best_no (S := S) (P := P) (a := a) (e := e) (k := q) (fun h => by have := hin.1 h.1; omega))
          clear hin eb hbr
          go_wp2_with (first
            | (go_at_call 34; (with_reducible refine HLe.out.mono ?_); rintro e w2 ⟨rfl, rfl⟩; clear HLe))
          go_roundw
          case rel => exact ⟨q + 1, by rw [HN.out], by simp, by omega, HB.out⟩
          case measure => simp only [intOf]; omega
      · by_cases g1 : f ≤ (q : Int)
        · have q2 : IntKind.i64.wrap ((q : Int) - f) = (q : Int) - f := by rw [IntKind.wrap_i64]; omega
          by_cases hi : (q : Int) - f < n
          · skip
            have hio := hin.2 ⟨by omega, by omega, by omega⟩
            by_cases hneg : best S P a e q < 0
            · have HN := Lib.hid (best_yes (S := S) (P := P) (a := a) (e := e) (k := q) ⟨hio, .inl hneg⟩)
              clear hin hio eb hbr
              go_wp2_with (first
                | (go_at_call 34; (with_reducible refine HLe.out.mono ?_); rintro e w2 ⟨rfl, rfl⟩; clear HLe))
              go_roundw
              case rel => exact ⟨q + 1, by rw [HN.out], by simp, by omega, HB.out⟩
              case measure => simp only [intOf]; omega
            · by_cases hbt : aLeft S P (best S P a e q) < aLeft S P (q : Int)
              · have HN := Lib.hid (best_yes (S := S) (P := P) (a := a) (e := e) (k := q) ⟨hio, .inr hbt⟩)
                clear hin hio eb hbr
                go_wp2_with (first
                  | (go_at_call 34; (with_reducible refine HLe.out.mono ?_); rintro e w2 ⟨rfl, rfl⟩; clear HLe)
                  | (go_at_call 35; (with_reducible refine HL1.out.mono ?_); rintro e w3 ⟨rfl, H3⟩; have B3 := Lib.hid (HB.out.trans (H3.mono HB.out.size)); have HL3 := Lib.hid (HL2.out _ B3.out); clear HL1 HL2)
                  | (go_at_call 35; (with_reducible refine HL3.out.mono ?_); rintro e w4 ⟨rfl, H4⟩; clear HL3))
                go_roundw
                case rel => exact ⟨q + 1, by rw [HN.out], by simp, by omega, B3.out.trans (H4.mono B3.out.size)⟩
                case measure => simp only [intOf]; omega
              · have HN := Lib.hid (best_no (S := S) (P := P) (a := a) (e := e) (k := q) (fun h => h.2.elim hneg hbt))
                clear hin hio eb hbr
                go_wp2_with (first
                  | (go_at_call 34; (with_reducible refine HLe.out.mono ?_); rintro e w2 ⟨rfl, rfl⟩; clear HLe)
                  | (go_at_call 35; (with_reducible refine HL1.out.mono ?_); rintro e w3 ⟨rfl, H3⟩; have B3 := Lib.hid (HB.out.trans (H3.mono HB.out.size)); have HL3 := Lib.hid (HL2.out _ B3.out); clear HL1 HL2)
                  | (go_at_call 35; (with_reducible refine HL3.out.mono ?_); rintro e w4 ⟨rfl, H4⟩; clear HL3))
                go_roundw
                case rel => exact ⟨q + 1, by rw [HN.out], by simp, by omega, B3.out.trans (H4.mono B3.out.size)⟩
                case measure => simp only [intOf]; omega
          · skip
            have HN := Lib.hid (best_no (S := S) (P := P) (a := a) (e := e) (k := q) (fun h => by have := hin.1 h.1; omega))
            clear hin eb hbr
            go_wp2_with (first
              | (go_at_call 34; (with_reducible refine HLe.out.mono ?_); rintro e w2 ⟨rfl, rfl⟩; clear HLe))
            go_roundw
            case rel => exact ⟨q + 1, by rw [HN.out], by simp, by omega, HB.out⟩
            case measure => simp only [intOf]; omega
        · skip
          have HN := Lib.hid (best_no (S := S) (P := P) (a := a) (e := e) (k := q) (fun h => by have := hin.1 h.1; omega))
          clear hin eb hbr
          go_wp2_with (first
            | (go_at_call 34; (with_reducible refine HLe.out.mono ?_); rintro e w2 ⟨rfl, rfl⟩; clear HLe))
          go_roundw
          case rel => exact ⟨q + 1, by rw [HN.out], by simp, by omega, HB.out⟩
          case measure => simp only [intOf]; omega
    · obtain rfl : q = P.cnt := by omega
      have i1 : ¬ (P.cnt : Int) < (P.cnt : Int) := by omega
      have HE := HLV.out
      clear eb
      by_cases hneg : best S P a e P.cnt < 0
      · rw [if_pos hneg] at HE
        go_wp2_with (go_at_call 34; (with_reducible refine HLe.out.mono ?_); rintro e w2 ⟨rfl, rfl⟩; clear HLe)
        go_ret2
        first | exact ⟨ret_val HE, HB.out⟩ | exact ⟨rfl, HB.out⟩
      · rw [if_neg hneg] at HE
        go_wp2_with (go_at_call 34; (with_reducible refine HLe.out.mono ?_); rintro e w2 ⟨rfl, rfl⟩; clear HLe)
        go_ret2
        first | exact ⟨ret_val HE, HB.out⟩ | exact ⟨rfl, HB.out⟩
end Go.Proofs.Ytclephjnokbaoaa

namespace Go.Proofs.Ytclephjnokbaoaa
open Go.RowKit
set_option linter.unusedVariables false
set_option linter.unusedSimpArgs false

theorem made_n {n : Nat} {b : Int} (hn : 1 ≤ n) (h : 0 ≤ b ∧ b ≤ 1000) : Pt.made n 0 (n : Int) b = ⟨0, n, b.toNat⟩ := by
  unfold Pt.made
  rw [if_pos (by omega), show min (max b 0) 1000 = b by omega, show min (n : Int) ((n : Int) - 0) = (n : Int) by omega]
  rfl
theorem rg_new {w0 w1 w2 : World} {g m k x n : Nat} {b : Int} (hn : n ≤ 400) (hb : 0 ≤ b ∧ b ≤ 1000) (hg : w0.heap.size ≤ g) (hm : w0.heap.size ≤ m) (hk : w0.heap.size ≤ k) (f1 : Fl w1 w1.heap.size g m k (fresh n)) (b1 : Below w0.heap.size w0 w1)
    (hx : w1.heap.size ≤ x) (a2 : Ar w2 x g ⟨0, n, b.toNat⟩) (b2 : Below w1.heap.size w1 w2) : Rg w0 w2 w1.heap.size x g m k (fresh n) ⟨0, n, b.toNat⟩ :=
  ⟨a2, f1.kept b2, fun e => by have := f1.lt e; omega, by have := b1.size; omega, hg, hm, hk, b1.trans (b2.mono b1.size), by rw [rg_len]; exact ⟨by simp, by omega, by simp only []; omega⟩, few_fresh n⟩
/-- What is left of a flash that was never erased. -/
theorem left_fresh {n : Nat} {P : Pt} (hn : n ≤ 400) (s : Nat) (hs : s < P.cnt) : aLeft (fresh n) P (s : Int) = (P.bud : Int) := by
  have hw : wearAt (fresh n) ((P.fst : Int) + (s : Int)) = 0 := by
    unfold wearAt
    split
    · rename_i h
      have h2 := h.2
      rw [fresh_wear] at h2
      show (List.replicate n (0 : Int)).getD _ 0 = 0
      rw [getD_rep _ _ _ (by have := h.1; omega)]
    · rfl
  unfold aLeft
  rw [if_pos ⟨by omega, by omega⟩, hw]
  omega
theorem sum_fresh {n : Nat} {P : Pt} (hn : n ≤ 400) : ∀ k, k ≤ P.cnt → sumL (fresh n) P k = (k : Int) * (P.bud : Int)
  | 0, _ => by unfold sumL; simp
  | k + 1, h => by
    unfold sumL
    rw [sum_fresh hn k (by omega), left_fresh hn k (by omega), Int.natCast_succ, Int.add_mul, Int.one_mul]
set_option maxRecDepth 100000 in
set_option maxHeartbeats 1000000 in
theorem alive_any (w : World) : Calls Try.prog 5 #[] w fun e w' => e = .returned (.bool true) ∧ Below w.heap.size w w' := by
  have HS4 := Lib.hid (show sumL (fresh 4) ⟨0, 4, 3⟩ 4 = 12 by rw [sum_fresh (by omega) 4 (by simp)]; rfl)
  go_enter Try.func5, Try.ntmps5
  go_wp2_with (first
    | (go_at_call_of 16 (Value.pointer none); (with_reducible refine (wsum_nil _).mono ?_); rintro e wa ⟨rfl, H1⟩; have HA := Lib.hid H1; have hn := Lib.hid (new_any 4 wa))
    | (go_at_call 6; (with_reducible refine hn.out.mono ?_); rintro e w1 ⟨g, m, k, rfl, hg, hm, hk, f1, b1⟩; rw [sect4] at f1; have HN := newArea_any 0 0 4 3 w1 f1 ⟨i64_of (by omega), i64_of (by omega), i64_of (by omega)⟩; rw [rg_len, made4 (by omega)] at HN; unfold capCells at HN)
    | (go_at_call 8; (with_reducible refine HN.mono ?_); rintro e w2 ⟨x, rfl, hx, a2, b2⟩; clear HN; have sz := HA.out.size; have R2 := Lib.hid (rg_new (w0 := w) (n := 4) (b := 3) (by omega) (by omega) (by omega) (by omega) (by omega) f1 (belowThen HA.out b1) hx a2 b2); clear hg hm hk f1 b1 hx a2 b2 hn sz H1; have HSm := Lib.hid (wsum_any w2 R2.out.ar R2.out.fl R2.out.few (by simp [fresh]) R2.out.pok); rw [show (3 : Int).toNat = 3 from rfl, HS4.out] at HSm)
    | (go_at_call 16; (with_reducible refine HSm.out.mono ?_); rintro e w3 ⟨rfl, b3⟩; have R3 := Lib.hid (R2.out.kept b3)))
  go_ret
  exact ⟨rfl, R3.out.bel⟩
/-- Behind one erase of sector s. -/
theorem left_one {b s i : Nat} (hs : s < 6) (hi : i < 6) (hb : 1 ≤ b) : aLeft (aErase (fresh 6) ⟨0, 6, b⟩ (s : Int)).2 ⟨0, 6, b⟩ (i : Int) = if i = s then (b : Int) - 1 else (b : Int) := by
  have h0 := left_fresh (n := 6) (P := ⟨0, 6, b⟩) (by omega) s hs
  have he : aErase (fresh 6) ⟨0, 6, b⟩ (s : Int) = erase (fresh 6) (s : Int) := by
    unfold aErase
    rw [if_pos ⟨by omega, by simp only []; omega⟩, h0, if_neg (by simp only []; omega)]
    simp
  have hw : (erase (fresh 6) (s : Int)).2.wear = (List.replicate 6 (0 : Int)).set s 1 := by
    rw [erase_ok' rfl ⟨by omega, by rw [fresh_wear]; omega⟩, (work_wear _ _ _).1, Int.toNat_natCast]
    show (List.replicate 6 (0 : Int)).set s ((List.replicate 6 (0 : Int)).getD s 0 + 1) = _
    rw [getD_rep _ _ _ hs]
    rfl
  have hat : wearAt (erase (fresh 6) (s : Int)).2 (((0 : Nat) : Int) + (i : Int)) = if i = s then 1 else 0 := by
    unfold wearAt
    rw [if_pos ⟨by omega, by rw [hw]; simp; omega⟩, hw]
    rw [show (((0 : Nat) : Int) + (i : Int)).toNat = i by omega, getD_set _ _ _ _ (by simpa using hi)]
    by_cases e : s = i
    · rw [if_pos e, if_pos e.symm]
    · rw [if_neg e, if_neg (fun x => e x.symm), getD_rep _ _ _ hi]
  rw [he]
  unfold aLeft
  rw [if_pos ⟨by omega, by simp only []; omega⟩]
  simp only []
  rw [hat]
  split <;> omega
/-- What the law asks of it. -/
theorem one_sum {b s : Nat} (hs : s < 6) (hb : 1 ≤ b) : sumL (aErase (fresh 6) ⟨0, 6, b⟩ (s : Int)).2 ⟨0, 6, b⟩ 6 = 6 * (b : Int) - 1 := by
  have h0 := left_one (i := 0) hs (by omega) hb
  have h1 := left_one (i := 1) hs (by omega) hb
  have h2 := left_one (i := 2) hs (by omega) hb
  have h3 := left_one (i := 3) hs (by omega) hb
  have h4 := left_one (i := 4) hs (by omega) hb
  have h5 := left_one (i := 5) hs (by omega) hb
  generalize (aErase (fresh 6) ⟨0, 6, b⟩ (s : Int)).2 = S at *
  unfold sumL sumL sumL sumL sumL sumL sumL
  rw [h0, h1, h2, h3, h4, h5]
  obtain rfl | rfl | rfl | rfl | rfl | rfl : s = 0 ∨ s = 1 ∨ s = 2 ∨ s = 3 ∨ s = 4 ∨ s = 5 := by omega
  all_goals (simp; omega)
theorem one_best {b s : Nat} (hs : s < 6) (hb : 1 ≤ b) : leastN (aErase (fresh 6) ⟨0, 6, b⟩ (s : Int)).2 ⟨0, 6, b⟩ (s : Int) 1 = (s : Int) ∧ leastN (aErase (fresh 6) ⟨0, 6, b⟩ (s : Int)).2 ⟨0, 6, b⟩ 0 6 = (if s = 0 then 1 else 0) ∧ leastN (aErase (fresh 6) ⟨0, 6, b⟩ (s : Int)).2 ⟨0, 6, b⟩ 6 3 = -1 := by
  have h0 := left_one (i := 0) hs (by omega) hb
  have h1 := left_one (i := 1) hs (by omega) hb
  have h2 := left_one (i := 2) hs (by omega) hb
  have h3 := left_one (i := 3) hs (by omega) hb
  have h4 := left_one (i := 4) hs (by omega) hb
  have h5 := left_one (i := 5) hs (by omega) hb
  generalize (aErase (fresh 6) ⟨0, 6, b⟩ (s : Int)).2 = S at *
  have e1 : spanA (s : Int) 1 6 = s ∧ spanE (s : Int) 1 6 = (s : Int) + 1 := by unfold spanA spanE; constructor <;> (split; omega; split <;> omega)
  have e2 : spanA 0 6 6 = 0 ∧ spanE 0 6 6 = 6 := by decide
  have e3 : spanA 6 3 6 = 6 ∧ spanE 6 3 6 = 6 := by decide
  refine ⟨?_, ?_, ?_⟩
  · show best S ⟨0, 6, b⟩ (spanA (s : Int) 1 ((6 : Nat) : Int)) (spanE (s : Int) 1 ((6 : Nat) : Int)) 6 = s
    rw [show ((6 : Nat) : Int) = 6 from rfl, e1.1, e1.2]
    obtain ⟨d, hd⟩ : ∃ d, 6 = s + 1 + d := ⟨6 - (s + 1), by omega⟩
    rw [hd, best_hi S _ _ _ (s + 1) (by omega) d]
    exact best_yes ⟨⟨by omega, by omega⟩, .inl (by rw [best_lo _ _ _ _ _ (Int.le_refl _)]; omega)⟩
  · show best S ⟨0, 6, b⟩ (spanA 0 6 ((6 : Nat) : Int)) (spanE 0 6 ((6 : Nat) : Int)) 6 = _
    rw [show ((6 : Nat) : Int) = 6 from rfl, e2.1, e2.2]
    have k1 : best S ⟨0, 6, b⟩ 0 6 1 = 0 := best_yes ⟨⟨by omega, by omega⟩, .inl (show (-1 : Int) < 0 by omega)⟩
    by_cases e : s = 0
    · subst e
      rw [if_pos rfl]
      have k2 : best S ⟨0, 6, b⟩ 0 6 2 = 1 := best_yes ⟨⟨by omega, by omega⟩, .inr (by rw [k1, show (0 : Int) = ((0 : Nat) : Int) from rfl, h0, h1]; simp; omega)⟩
      have k3 : best S ⟨0, 6, b⟩ 0 6 3 = 1 := by rw [best_no (fun h => by rw [k2, show (1 : Int) = ((1 : Nat) : Int) from rfl, h1, h2] at h; simp at h), k2]
      have k4 : best S ⟨0, 6, b⟩ 0 6 4 = 1 := by rw [best_no (fun h => by rw [k3, show (1 : Int) = ((1 : Nat) : Int) from rfl, h1, h3] at h; simp at h), k3]
      have k5 : best S ⟨0, 6, b⟩ 0 6 5 = 1 := by rw [best_no (fun h => by rw [k4, show (1 : Int) = ((1 : Nat) : Int) from rfl, h1, h4] at h; simp at h), k4]
      rw [best_no (fun h => by rw [k5, show (1 : Int) = ((1 : Nat) : Int) from rfl, h1, h5] at h; simp at h), k5]
    · rw [if_neg e]
      rw [if_neg (by omega)] at h0
      have le : ∀ i : Nat, i < 6 → aLeft S ⟨0, 6, b⟩ (i : Int) ≤ (b : Int) := by
        intro i hi
        obtain rfl | rfl | rfl | rfl | rfl | rfl : i = 0 ∨ i = 1 ∨ i = 2 ∨ i = 3 ∨ i = 4 ∨ i = 5 := by omega
        · rw [h0]; omega
        · rw [h1]; split <;> omega
        · rw [h2]; split <;> omega
        · rw [h3]; split <;> omega
        · rw [h4]; split <;> omega
        · rw [h5]; split <;> omega
      have up : ∀ q : Nat, q ≤ 5 → best S ⟨0, 6, b⟩ 0 6 (q + 1) = 0 := by
        intro q
        induction q with
        | zero => intro _; exact k1
        | succ q ih =>
          intro hq
          have ih := ih (by omega)
          rw [best_no (fun h => by
            have h2 := h.2
            rw [ih] at h2
            have := le (q + 1) (by omega)
            have h0' : aLeft S ⟨0, 6, b⟩ 0 = (b : Int) := h0
            rw [h0'] at h2
            omega), ih]
      exact up 5 (by omega)
  · show best S ⟨0, 6, b⟩ (spanA 6 3 ((6 : Nat) : Int)) (spanE 6 3 ((6 : Nat) : Int)) 6 = -1
    rw [show ((6 : Nat) : Int) = 6 from rfl, e3.1, e3.2]
    exact best_none _ _ _ _ (by omega) 6
end Go.Proofs.Ytclephjnokbaoaa
