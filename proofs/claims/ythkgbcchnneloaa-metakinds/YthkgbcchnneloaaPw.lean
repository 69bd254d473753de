/-
  Which bytes an image is written as: the program's writeImage, the document's putImage; conditions: its digest is of 32 bytes, its numbers of 64 bits.
-/
import Derived.Test.YthkgbcchnneloaaWk
namespace Go.Proofs.Ythkgbcchnneloaa
open Go.RowKit
set_option linter.unusedVariables false
set_option linter.unusedSimpArgs false

theorem cut32 : cutN 32 1000 = 32 := by decide
theorem cut8_4 : cutN 4 8 = 4 := by decide
theorem cut8_1 : cutN 1 8 = 1 := by decide
theorem im_digs {i : Im} (h : i.Ok) (j : Nat) (hj : j < 32) : i.cells[2 + j]? = some (.int .u8 (i.dig.getD j 0)) := by
  have hl := h.1
  have e : 2 + j = j + 2 := by omega
  rw [e]
  simp [Im.cells, Im.list, nums, List.getElem?_eq_getElem (show j < i.dig.length by omega), List.getD_eq_getElem?_getD]
/-- The digest of an image in memory, as a row. -/
theorem dig_row {w : World} {g : Nat} {i : Im} (h : Has w g 24 i.cells) (hi : i.Ok) : Row w (some ⟨g, 2, none⟩) 32 i.dig :=
  row_mk hi.1 hi.2.1 h.size (fun j hj => by rw [h.at, im_digs hi j hj])
theorem Wk.at {w0 w : World} {p : Nat} {zs : List Int} (h : Wk w0 p zs w) : p < w.heap.size := by
  obtain ⟨_, _, P, h3, _⟩ := h
  exact h3.at
theorem Rk.at {w0 w : World} {p B : Nat} {zs : List Int} (h : Rk w0 p B zs w) : p < w.heap.size := by
  obtain ⟨_, _, _, P, h3, _⟩ := h
  exact h3.at
/-- What a writer's call leaves: nothing but the writer itself has turned. -/
def WpTo (w0 : World) (p : Nat) (zs : List Int) (w : World) (e : Ending) (w' : World) : Prop := e = .returned (.tuple #[]) ∧ Wk w0 p zs w' ∧ Only (fun b => b = p) w w'
theorem wp_of {w0 w w' : World} {p : Nat} {P : Nat → Prop} {zs : List Int} (h1 : w0.heap.size ≤ p) (h2 : Below w0.heap.size w0 w) (hP : ∀ b, P b → b < w.heap.size) (h : WrTo p P zs w w') : WpTo w0 p zs w (.returned (.tuple #[])) w' :=
  ⟨rfl, ⟨h1, h2.trans (h.2.to_below h2.size (fun b e => by omega)), _, h.1, h.lt hP⟩, h.2⟩
theorem wp_raw {w0 : World} {p : Nat} {zs : List Int} (A : Option Addr) (n c : Nat) (ys : List Int) (s : Int) (w : World) (hr : Row w A n ys) (hw : Wk w0 p zs w) (hle : zs.length ≤ 900000) :
    Calls Try.prog 32 #[.pointer (some ⟨p, 0, none⟩), .slice A n c, .int .i64 s] w (WpTo w0 p (zs ++ rawL ys (cutN s 1000)) w) := by
  obtain ⟨h1, h2, P, h3, h4⟩ := hw
  refine (wraw_any A n c ys s w hr h3 hle).mono ?_
  rintro e w' ⟨rfl, h⟩
  exact wp_of h1 h2 h4 h
theorem wp_num {w0 : World} {p : Nat} {zs : List Int} (n s : Int) (w : World) (hn : I64 n) (hw : Wk w0 p zs w) (hle : zs.length ≤ 900000) :
    Calls Try.prog 16 #[.pointer (some ⟨p, 0, none⟩), .int .i64 n, .int .i64 s] w (WpTo w0 p (zs ++ numL n (cutN s 8)) w) := by
  obtain ⟨h1, h2, P, h3, h4⟩ := hw
  refine (wnum_any n s w hn h3 hle).mono ?_
  rintro e w' ⟨rfl, h⟩
  exact wp_of h1 h2 h4 h
set_option maxRecDepth 100000 in
set_option maxHeartbeats 1000000 in
theorem writeImage_any {w0 : World} {p : Nat} {zs : List Int} (i : Im) (w : World) (hi : i.Ok) (hw : Wk w0 p zs w) (hle : zs.length ≤ 800000) :
    Calls Try.prog 17 #[.pointer (some ⟨p, 0, none⟩), .agg i.cells] w (WpTo w0 p (zs ++ imL i) w) := by
  have hp := hw.at
  have bb : Below w.heap.size w (w.alloc (.cells i.cells 24)) := (Below.refl _ _).alloc (Nat.le_refl _) _
  have H0 := Lib.hid (has_new w 24 i.cells)
  have K0 := Lib.hid (hw.kept bb)
  have q0 : (w.alloc (.cells i.cells 24)).cell? ⟨w.heap.size, 0, none⟩ = some (.int .i64 i.ver) := H0.out.at 0
  have OB := Lib.hid (show Only (fun b => b = p) w (w.alloc (.cells i.cells 24)) from Only.of_below bb)
  have HN1 := Lib.hid (wp_num i.ver 4 _ hi.2.2.1 K0.out (by omega))
  have HP := Lib.hid (show ¬ w.heap.size = p by omega)
  rw [cut8_4] at HN1
  clear hw bb hp
  go_enter Try.func17, Try.ntmps17
  go_wp2_with (first
    | (go_at_call 16; (with_reducible refine HN1.out.mono ?_); rintro e w1 ⟨rfl, k1, o1⟩; clear HN1; have H1 := Lib.hid (Has.only H0.out o1 HP.out); have q1 : w1.cell? ⟨w.heap.size, 1, none⟩ = some (.int .i64 i.size) := H1.out.at 1; have O1 := Lib.hid (OB.out.trans o1); have HN2 := Lib.hid (wp_num i.size 4 _ hi.2.2.2 k1 (by simp [num_len]; omega)); rw [cut8_4] at HN2; clear k1 o1)
    | (go_at_call 16; (with_reducible refine HN2.out.mono ?_); rintro e w2 ⟨rfl, k2, o2⟩; clear HN2; have H2 := Lib.hid (Has.only H1.out o2 HP.out); have O2 := Lib.hid (O1.out.trans o2); have HR := Lib.hid (wp_raw (some ⟨w.heap.size, 2, none⟩) 32 32 i.dig 32 _ (dig_row H2.out hi) k2 (by simp [num_len]; omega)); rw [cut32] at HR; clear k2 o2)
    | (go_at_call 32; (with_reducible refine HR.out.mono ?_); rintro e w3 ⟨rfl, k3, o3⟩; clear HR; have O3 := Lib.hid (O2.out.trans o3); have K3 := Lib.hid k3; clear k3 o3))
  go_end0
  refine ⟨rfl, ?_, O3.out⟩
  have := K3.out
  unfold imL
  rw [← List.append_assoc, ← List.append_assoc]
  exact this

/-- The document's writer, its row in no block g. -/
def Rq (w0 : World) (p g : Nat) (zs : List Int) (w : World) : Prop := w0.heap.size ≤ p ∧ g < w.heap.size ∧ Below w0.heap.size w0 w ∧ ∃ P : Nat → Prop, Rw w p P zs ∧ ∀ b, P b → p < b ∧ b < w.heap.size ∧ b ≠ g
def RqTo (w0 : World) (p g : Nat) (zs : List Int) (w : World) (e : Ending) (w' : World) : Prop := e = .returned (.tuple #[]) ∧ Rq w0 p g zs w' ∧ Only (fun b => p ≤ b ∧ b ≠ g) w w'
theorem rq_of {w0 w w' : World} {p g : Nat} {P : Nat → Prop} {zs : List Int} (h1 : w0.heap.size ≤ p) (hg : g < w.heap.size) (hpg : p ≠ g) (hp : p < w.heap.size) (h2 : Below w0.heap.size w0 w) (hP : ∀ b, P b → p < b ∧ b < w.heap.size ∧ b ≠ g) (h : RwTo p P zs w w') : RqTo w0 p g zs w (.returned (.tuple #[])) w' := by
  have ho : Only (fun b => p ≤ b ∧ b ≠ g) w w' := h.2.mono fun b e => by
    rcases e with e | e
    · omega
    · have := hP b e; omega
  refine ⟨rfl, ⟨h1, Nat.lt_of_lt_of_le hg h.2.size, h2.trans (ho.to_below h2.size (fun b e => by omega)), _, h.1, fun b hb => ?_⟩, ho⟩
  have hs := h.2.size
  rcases hb with hb | hb
  · have := hP b hb
    omega
  · omega
theorem rq_num {w0 : World} {p g : Nat} {zs : List Int} (n s : Int) (w : World) (hpg : p ≠ g) (hw : Rq w0 p g zs w) (hle : zs.length ≤ 900000) :
    Calls Try.prog 28 #[.pointer (some ⟨p, 0, none⟩), .int .i64 n, .int .i64 s] w (RqTo w0 p g (zs ++ numL n (cutN s 8)) w) := by
  obtain ⟨h1, hg, h2, P, h3, h4⟩ := hw
  refine (rwnum_any n s w h3 hle).mono ?_
  rintro e w' ⟨rfl, h⟩
  exact rq_of h1 hg hpg h3.at h2 h4 h
theorem rq_raw {w0 : World} {p g : Nat} {zs : List Int} (off n c : Nat) (ys : List Int) (s : Int) (w : World) (hr : Row w (some ⟨g, off, none⟩) n ys) (hpg : p ≠ g) (hw : Rq w0 p g zs w) (hle : zs.length ≤ 900000) :
    Calls Try.prog 43 #[.pointer (some ⟨p, 0, none⟩), .slice (some ⟨g, off, none⟩) n c, .int .i64 s] w (RqTo w0 p g (zs ++ rawL ys (cutN s 1000)) w) := by
  obtain ⟨h1, hg, h2, P, h3, h4⟩ := hw
  refine (rwraw_any _ n c ys s w hr (fun _ x hx => by cases hx; exact ⟨fun e => hpg e.symm, fun hP => (h4 _ hP).2.2 rfl⟩) h3 hle).mono ?_
  rintro e w' ⟨rfl, h⟩
  exact rq_of h1 hg hpg h3.at h2 h4 h
set_option maxRecDepth 100000 in
set_option maxHeartbeats 1000000 in
theorem putImage_any {w0 : World} {p B : Nat} {zs : List Int} (i : Im) (w : World) (hi : i.Ok) (hw : Rk w0 p B zs w) (hle : zs.length ≤ 800000) :
    Calls Try.prog 29 #[.pointer (some ⟨p, 0, none⟩), .agg i.cells] w (RkTo w0 p (zs ++ imL i) w) := by
  have hp := hw.at
  have bb : Below w.heap.size w (w.alloc (.cells i.cells 24)) := (Below.refl _ _).alloc (Nat.le_refl _) _
  have H0 := Lib.hid (has_new w 24 i.cells)
  have K0 : Hid (Rq w0 p w.heap.size zs (w.alloc (.cells i.cells 24))) := Lib.hid (by
    obtain ⟨h1, h2, h3, P, h4, h5⟩ := hw.kept bb
    obtain ⟨_, hB, _⟩ := hw
    exact ⟨h1, by simp, h3, P, h4, fun b hb => by have := h5 b hb; simp only [World.size_alloc]; omega⟩)
  have q0 : (w.alloc (.cells i.cells 24)).cell? ⟨w.heap.size, 0, none⟩ = some (.int .i64 i.ver) := H0.out.at 0
  have OB := Lib.hid (show Only (fun b => p ≤ b ∧ b ≠ w.heap.size) w (w.alloc (.cells i.cells 24)) from Only.of_below bb)
  have HP := Lib.hid (show p ≠ w.heap.size by omega)
  have HN1 := Lib.hid (rq_num i.ver 4 _ HP.out K0.out (by omega))
  have HQ := Lib.hid (show ¬ (p ≤ w.heap.size ∧ w.heap.size ≠ w.heap.size) from fun h => h.2 rfl)
  rw [cut8_4] at HN1
  clear hw bb hp
  go_enter Try.func29, Try.ntmps29
  go_wp2_with (first
    | (go_at_call 28; (with_reducible refine HN1.out.mono ?_); rintro e w1 ⟨rfl, k1, o1⟩; clear HN1; have H1 := Lib.hid (Has.only H0.out o1 HQ.out); have q1 : w1.cell? ⟨w.heap.size, 1, none⟩ = some (.int .i64 i.size) := H1.out.at 1; have O1 := Lib.hid (OB.out.trans o1); have HN2 := Lib.hid (rq_num i.size 4 _ HP.out k1 (by simp [num_len]; omega)); rw [cut8_4] at HN2; clear k1 o1)
    | (go_at_call 28; (with_reducible refine HN2.out.mono ?_); rintro e w2 ⟨rfl, k2, o2⟩; clear HN2; have H2 := Lib.hid (Has.only H1.out o2 HQ.out); have O2 := Lib.hid (O1.out.trans o2); have HR := Lib.hid (rq_raw 2 32 32 i.dig 32 _ (dig_row H2.out hi) HP.out k2 (by simp [num_len]; omega)); rw [cut32] at HR; clear k2 o2)
    | (go_at_call 43; (with_reducible refine HR.out.mono ?_); rintro e w3 ⟨rfl, k3, o3⟩; clear HR; have O3 := Lib.hid (O2.out.trans o3); have K3 := Lib.hid k3; clear k3 o3))
  go_end0
  refine ⟨rfl, ?_, O3.out.mono (fun b h => h.1)⟩
  obtain ⟨h1, h2, h3, P, h4, h5⟩ := K3.out
  unfold imL
  rw [← List.append_assoc, ← List.append_assoc]
  exact ⟨h1, Nat.le_refl _, h3, P, h4, fun b hb => ⟨(h5 b hb).1, (h5 b hb).2.1⟩⟩
end Go.Proofs.Ythkgbcchnneloaa
