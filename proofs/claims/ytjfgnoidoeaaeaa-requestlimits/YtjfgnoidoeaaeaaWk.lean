/-
  Writers that a call has made itself, the program's and the document's: what each call adds; conditions: the rows read as bytes and lie elsewhere.
-/
import Derived.Test.YtjfgnoidoeaaeaaMk
namespace Go.Proofs.Ytjfgnoidoeaaeaa
open Go.RowKit
set_option linter.unusedVariables false
set_option linter.unusedSimpArgs false

/-- The program's writer at block p, made by a call that began at w0. -/
def Wk (w0 : World) (p : Nat) (zs : List Int) (w : World) : Prop := w0.heap.size ≤ p ∧ Below w0.heap.size w0 w ∧ ∃ P : Nat → Prop, Wr w p P zs ∧ ∀ b, P b → b < w.heap.size
/-- The document's; its row lies between p and B. -/
def Rk (w0 : World) (p B : Nat) (zs : List Int) (w : World) : Prop := w0.heap.size ≤ p ∧ B ≤ w.heap.size ∧ Below w0.heap.size w0 w ∧ ∃ P : Nat → Prop, Rw w p P zs ∧ ∀ b, P b → p < b ∧ b < B
theorem Wk.kept {w0 w w' : World} {p : Nat} {zs : List Int} (h : Wk w0 p zs w) (hb : Below w.heap.size w w') : Wk w0 p zs w' := by
  obtain ⟨h1, h2, P, h3, h4⟩ := h
  exact ⟨h1, h2.trans (hb.mono h2.size), P, h3.kept hb, fun b hb' => Nat.lt_of_lt_of_le (h4 b hb') hb.size⟩
theorem Rk.kept {w0 w w' : World} {p B : Nat} {zs : List Int} (h : Rk w0 p B zs w) (hb : Below w.heap.size w w') : Rk w0 p B zs w' := by
  obtain ⟨h1, h2, h3, P, h4, h5⟩ := h
  exact ⟨h1, Nat.le_trans h2 hb.size, h3.trans (hb.mono h3.size), P, h4.only (X := fun _ => False) (Only.of_below hb) (fun b hb => hb.elim), h5⟩
theorem wk_new (w0 w : World) (hb : Below w0.heap.size w0 w) : Wk w0 w.heap.size [] (w.alloc (.cells #[.pointer none, .int .i64 0] 50)) :=
  ⟨hb.size, hb.alloc hb.size _, fun _ => False, wnew w, fun b hb => hb.elim⟩
theorem rk_new (w0 w : World) (hb : Below w0.heap.size w0 w) : Rk w0 w.heap.size (w.heap.size + 1) [] (w.alloc (.cells #[.slice none 0 0] 65)) :=
  ⟨hb.size, by simp, hb.alloc hb.size _, fun _ => False, ⟨by simp, fun h => h, _, has_new _ _ _, own_nil _ _, fun g hg => by cases hg⟩, fun b hb => hb.elim⟩
/-- What a call leaves. -/
def WkTo (w0 : World) (p : Nat) (zs : List Int) (w : World) (e : Ending) (w' : World) : Prop := e = .returned (.tuple #[]) ∧ Wk w0 p zs w' ∧ Only (fun b => p ≤ b) w w'
def RkTo (w0 : World) (p : Nat) (zs : List Int) (w : World) (e : Ending) (w' : World) : Prop := e = .returned (.tuple #[]) ∧ Rk w0 p w'.heap.size zs w' ∧ Only (fun b => p ≤ b) w w'
theorem wk_to {w0 w w' : World} {p : Nat} {P : Nat → Prop} {zs : List Int} (h1 : w0.heap.size ≤ p) (h2 : Below w0.heap.size w0 w) (hP : ∀ b, P b → b < w.heap.size) (h : WrTo p P zs w w') : WkTo w0 p zs w (.returned (.tuple #[])) w' :=
  ⟨rfl, ⟨h1, h2.trans (h.2.to_below h2.size (fun b e => by omega)), _, h.1, h.lt hP⟩, h.2.mono fun b e => by omega⟩
theorem rk_to {w0 w w' : World} {p B : Nat} {P : Nat → Prop} {zs : List Int} (h1 : w0.heap.size ≤ p) (hB : B ≤ w.heap.size) (hp : p < w.heap.size) (h2 : Below w0.heap.size w0 w) (hP : ∀ b, P b → p < b ∧ b < B) (h : RwTo p P zs w w') : RkTo w0 p zs w (.returned (.tuple #[])) w' := by
  have ho : Only (fun b => p ≤ b) w w' := h.2.mono fun b e => by
    rcases e with e | e
    · omega
    · have := hP b e; omega
  refine ⟨rfl, ⟨h1, Nat.le_refl _, h2.trans (ho.to_below h2.size (fun b e => by omega)), _, h.1, fun b hb => ?_⟩, ho⟩
  rcases hb with hb | hb
  · have := hP b hb
    have := h.2.size
    omega
  · omega
theorem wk_raw {w0 : World} {p : Nat} {zs : List Int} (A : Option Addr) (n c : Nat) (ys : List Int) (s : Int) (w : World) (hr : Row w A n ys) (hw : Wk w0 p zs w) (hle : zs.length ≤ 900000) :
    Calls Try.prog 19 #[.pointer (some ⟨p, 0, none⟩), .slice A n c, .int .i64 s] w (WkTo w0 p (zs ++ rawL ys (cutN s 1000)) w) := by
  obtain ⟨h1, h2, P, h3, h4⟩ := hw
  refine (wraw_any A n c ys s w hr h3 hle).mono ?_
  rintro e w' ⟨rfl, h⟩
  exact wk_to h1 h2 h4 h
theorem wk_num {w0 : World} {p : Nat} {zs : List Int} (n s : Int) (w : World) (hn : I64 n) (hw : Wk w0 p zs w) (hle : zs.length ≤ 900000) :
    Calls Try.prog 18 #[.pointer (some ⟨p, 0, none⟩), .int .i64 n, .int .i64 s] w (WkTo w0 p (zs ++ numL n (cutN s 8)) w) := by
  obtain ⟨h1, h2, P, h3, h4⟩ := hw
  refine (wnum_any n s w hn h3 hle).mono ?_
  rintro e w' ⟨rfl, h⟩
  exact wk_to h1 h2 h4 h
theorem wk_bytes {w0 : World} {p : Nat} {zs : List Int} (w : World) (hw : Wk w0 p zs w) : Calls Try.prog 20 #[.pointer (some ⟨p, 0, none⟩)] w (Gives zs.length zs w) := by
  obtain ⟨h1, h2, P, h3, h4⟩ := hw
  exact bytes_any w h3 h4
theorem rk_num {w0 : World} {p B : Nat} {zs : List Int} (n s : Int) (w : World) (hw : Rk w0 p B zs w) (hle : zs.length ≤ 900000) :
    Calls Try.prog 28 #[.pointer (some ⟨p, 0, none⟩), .int .i64 n, .int .i64 s] w (RkTo w0 p (zs ++ numL n (cutN s 8)) w) := by
  obtain ⟨h1, hB, h2, P, h3, h4⟩ := hw
  refine (rwnum_any n s w h3 hle).mono ?_
  rintro e w' ⟨rfl, h⟩
  exact rk_to h1 hB h3.at h2 h4 h
theorem Own.raise {w : World} {base base' : Nat} {v : Value} {n : Nat} {zs : List Int} (h : Own w base v n zs) (hb : ∀ g, v.ownBlock = some g → base' ≤ g) : Own w base' v n zs := by
  obtain ⟨⟨h1, h2⟩, h3⟩ := h
  refine ⟨⟨h1, ?_⟩, h3⟩
  rcases h2 with h2 | ⟨g, cap, cur, e1, e2, e3⟩
  · exact .inl h2
  · refine .inr ⟨g, cap, cur, e1, hb g ?_, e3⟩
    rw [e1]
    rfl
/-- What it has written. -/
theorem rk_row {w0 : World} {p B : Nat} {zs : List Int} {w : World} (hw : Rk w0 p B zs w) : ∃ v, w.cell? ⟨p, 0, none⟩ = some v ∧ Own w w0.heap.size v zs.length zs ∧ Below w0.heap.size w0 w := by
  obtain ⟨h1, hB, h2, P, ⟨_, _, v, h3, h4, h5⟩, h6⟩ := hw
  exact ⟨v, h3.at 0, h4.raise (fun g hg => by have := h6 g (h5 g hg); omega), h2⟩
theorem Rk.wide {w0 w : World} {p B : Nat} {zs : List Int} (h : Rk w0 p B zs w) : Rk w0 p w.heap.size zs w := by
  obtain ⟨h1, hB, h2, P, h3, h4⟩ := h
  exact ⟨h1, Nat.le_refl _, h2, P, h3, fun b hb => by have := h4 b hb; omega⟩
end Go.Proofs.Ytjfgnoidoeaaeaa
