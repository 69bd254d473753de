/-
  The writers: the program's and the document's own; conditions: the writer is there.
-/
import Derived.Test.YtjfgnoidoeaaeaaRd
namespace Go.Proofs.Ytjfgnoidoeaaeaa
open Go.RowKit
set_option linter.unusedVariables false
set_option linter.unusedSimpArgs false

/-- copy(d, s), d a part of a block that is known whole. -/
theorem runs_cp (w : World) (ty : TypeId) (k g off dLen dCap : Nat) (A : Option Addr) (m c : Nat) (ys : List Int) (hr : Row w A m ys) (hk : Nat.min m dLen = k) (cur : Array Value) (t : TypeId) (hg : Has w g t cur) (hfit : off + k ≤ cur.size) :
    (Builtin.copy_ #[22, 22] ty #[.slice (some ⟨g, off, none⟩) dLen dCap, .slice A m c]).run Try.prog w = .ok (goInt (k : Int)) (w.setRow g (cur.toList.take off ++ (nums (ys.take k) ++ cur.toList.drop (off + k))).toArray) := by
  subst hk
  have hl : (ys.take (Nat.min m dLen)).length = Nat.min m dLen := by
    rw [List.length_take, hr.1]; exact Nat.min_eq_left (Nat.min_le_left _ _)
  by_cases h0 : Nat.min m dLen = 0
  · have hrun := run_copy_none (P := Try.prog) w 22 22 ty 5 (some ⟨g, off, none⟩) A dLen dCap m c Try.underlying22 (by kernel_rfl) h0
    have e : (cur.toList.take off ++ (nums (ys.take 0) ++ cur.toList.drop (off + 0))).toArray = cur := by simp [nums]
    rw [h0, e, setRow_self w g cur t (0, 0) hg]
    exact hrun
  · have hm : Nat.min m dLen ≤ m := Nat.min_le_left _ _
    have hr2 := row_upto hr (Nat.min m dLen) hm
    obtain ⟨b, off2, rfl, _, _⟩ := row_open hr2 (by omega)
    have hrun := run_copy_row (P := Try.prog) w 22 22 ty 5 g off dLen dCap ⟨b, off2, none⟩ m c cur t (nums (ys.take (Nat.min m dLen))) Try.underlying22 (by kernel_rfl) hg (by rw [nums_len, hl]) (row_cells hr2) (by rw [nums_len, hl]; exact hfit) (nums_one _)
    rw [nums_len, hl, List.append_assoc] at hrun
    exact hrun

/-- Blocks of P, and those that are new. -/
def Plus (P : Nat → Prop) (w w' : World) (b : Nat) : Prop := P b ∨ (w.heap.size ≤ b ∧ b < w'.heap.size)
/-- Bytes of pieces, the newest first. -/
def joined : List (List Int) → List Int
  | [] => []
  | ys :: L => joined L ++ ys
/-- The pieces behind a pointer, in blocks of P. -/
def Chain (w : World) (P : Nat → Prop) : Option Addr → List (List Int) → Prop
  | q, [] => q = none
  | q, ys :: L => ∃ g q' A c, q = some ⟨g, 0, none⟩ ∧ P g ∧ Has w g 73 #[.pointer q', .slice A ys.length c] ∧ Row w A ys.length ys ∧ 0 < ys.length ∧ ys.length ≤ c ∧ (∀ x, A = some x → P x.block) ∧ Chain w P q' L
theorem Chain.mono {w : World} {P P' : Nat → Prop} (h : ∀ b, P b → P' b) : ∀ {L : List (List Int)} {q : Option Addr}, Chain w P q L → Chain w P' q L
  | [], _, hc => hc
  | _ :: _, _, ⟨g, q', A, c, h1, h2, h3, h4, h5, h6, h7, h8⟩ => ⟨g, q', A, c, h1, h _ h2, h3, h4, h5, h6, fun x hx => h _ (h7 x hx), Chain.mono h h8⟩
theorem Chain.only {w w' : World} {P X : Nat → Prop} (o : Only X w w') (h : ∀ b, X b → ¬ P b) : ∀ {L : List (List Int)} {q : Option Addr}, Chain w P q L → Chain w' P q L
  | [], _, hc => hc
  | _ :: _, _, ⟨g, q', A, c, h1, h2, h3, h4, h5, h6, h7, h8⟩ => ⟨g, q', A, c, h1, h2, h3.only o (fun x => h _ x h2), row_keep h4 o (fun x hx hX => h _ hX (h7 x hx)), h5, h6, h7, Chain.only o h h8⟩
/-- The program's writer at block p, its pieces in blocks of P. -/
def Wr (w : World) (p : Nat) (P : Nat → Prop) (zs : List Int) : Prop := Byt zs ∧ zs.length ≤ 1000000 ∧ ¬ P p ∧ ∃ q L, Has w p 50 #[.pointer q, .int .i64 (zs.length : Int)] ∧ Chain w P q L ∧ joined L = zs
theorem Wr.mono {w : World} {p : Nat} {P P' : Nat → Prop} {zs : List Int} (h : Wr w p P zs) (hP : ∀ b, P b → P' b) (hp : ¬ P' p) : Wr w p P' zs := by
  obtain ⟨h1, h2, h3, q, L, h4, h5, h6⟩ := h
  exact ⟨h1, h2, hp, q, L, h4, h5.mono hP, h6⟩
theorem Wr.only {w w' : World} {p : Nat} {P X : Nat → Prop} {zs : List Int} (h : Wr w p P zs) (o : Only X w w') (hX : ∀ b, X b → b ≠ p ∧ ¬ P b) : Wr w' p P zs := by
  obtain ⟨h1, h2, h3, q, L, h4, h5, h6⟩ := h
  exact ⟨h1, h2, h3, q, L, h4.only o (fun x => (hX _ x).1 rfl), h5.only o (fun b hb => (hX b hb).2), h6⟩
theorem Wr.kept {w w' : World} {p : Nat} {P : Nat → Prop} {zs : List Int} (h : Wr w p P zs) (hb : Below w.heap.size w w') : Wr w' p P zs := h.only (X := fun _ => False) (Only.of_below hb) (fun b hb => hb.elim)
theorem Wr.at {w : World} {p : Nat} {P : Nat → Prop} {zs : List Int} (h : Wr w p P zs) : p < w.heap.size := by
  obtain ⟨_, _, _, q, L, h4, _⟩ := h
  exact h4.size
/-- What a writer's call leaves. -/
def WrTo (p : Nat) (P : Nat → Prop) (zs : List Int) (w w' : World) : Prop := Wr w' p (Plus P w w') zs ∧ Only (fun b => b = p) w w'
def Done (X : World → Prop) (e : Ending) (w' : World) : Prop := e = .returned (.tuple #[]) ∧ X w'
theorem plus_self {P : Nat → Prop} {w : World} {p : Nat} (hp : p < w.heap.size) (h : ¬ P p) (w' : World) : ¬ Plus P w w' p := by
  rintro (x | ⟨x, _⟩)
  · exact h x
  · omega
set_option maxRecDepth 100000 in
theorem add_any {p : Nat} {P : Nat → Prop} {zs : List Int} (A : Option Addr) (n c : Nat) (ys : List Int) (w : World) (hw : Wr w p P zs) (hr : Row w A n ys) (hc : n ≤ c) (hA : ∀ x, A = some x → P x.block) (hle : zs.length + n ≤ 1000000) :
    Calls Try.prog 32 #[.pointer (some ⟨p, 0, none⟩), .slice A n c] w (Done (WrTo p P (zs ++ ys) w)) := by
  have hp := hw.at
  have hl := hr.1
  by_cases h0 : n = 0
  · subst h0
    obtain rfl : ys = [] := List.eq_nil_of_length_eq_zero hl
    have HE := Lib.hid (show WrTo p P (zs ++ []) w w from ⟨by rw [List.append_nil]; exact hw.mono (fun b hb => .inl hb) (plus_self hp hw.2.2.1 _), Only.refl _ _⟩)
    go_enter Try.func32, Try.ntmps32
    go_wp2
    refine bodyPost_ret (results_none rfl _ _ _) rfl ?_
    exact ⟨rfl, HE.out⟩
  · obtain ⟨h1, h2, h3, q, L, h4, h5, h6⟩ := hw
    have q0 : w.cell? ⟨p, 0, none⟩ = some (.pointer q) := h4.at 0
    have q1 : w.cell? ⟨p, 1, none⟩ = some (.int .i64 (zs.length : Int)) := h4.at 1
    have f0 := h4.soft 0
    have f1 := h4.soft 1
    have hn0 : 0 < n := by omega
    have hap : p ≠ w.heap.size := by omega
    have HE := Lib.hid (show WrTo p P (zs ++ ys) w (((w.setCell ⟨p, 0, none⟩ (.pointer (some ⟨w.heap.size, 0, none⟩))).setCell ⟨p, 1, none⟩ (.int .i64 ((zs.length : Int) + (n : Int)))).alloc (.cells #[.pointer q, .slice A n c] 73)) by
      have o1 : Only (fun b => b = p) w ((w.setCell ⟨p, 0, none⟩ (.pointer (some ⟨w.heap.size, 0, none⟩))).setCell ⟨p, 1, none⟩ (.int .i64 ((zs.length : Int) + (n : Int)))) := ((Only.refl (fun b => b = p) w).setCell rfl _).setCell rfl _
      have hs1 : ((w.setCell ⟨p, 0, none⟩ (.pointer (some ⟨w.heap.size, 0, none⟩))).setCell ⟨p, 1, none⟩ (.int .i64 ((zs.length : Int) + (n : Int)))).heap.size = w.heap.size := by simp [World.setCell]
      have hput := (h4.put 0 (.pointer (some ⟨w.heap.size, 0, none⟩))).put 1 (.int .i64 ((zs.length : Int) + (n : Int)))
      generalize (w.setCell ⟨p, 0, none⟩ (.pointer (some ⟨w.heap.size, 0, none⟩))).setCell ⟨p, 1, none⟩ (.int .i64 ((zs.length : Int) + (n : Int))) = W at *
      have ha : Below W.heap.size W (W.alloc (.cells #[.pointer q, .slice A n c] 73)) := (Below.refl _ W).alloc (Nat.le_refl _) _
      have hsz : (W.alloc (.cells #[.pointer q, .slice A n c] 73)).heap.size = W.heap.size + 1 := by simp
      have hnew := has_new W 73 #[.pointer q, .slice A n c]
      have hext : ∀ b, P b → Plus P w (W.alloc (.cells #[.pointer q, .slice A n c] 73)) b := fun b hb => .inl hb
      have o2 := o1.below ha
      refine ⟨⟨byt_app h1 hr.2.1, by rw [List.length_append]; omega, plus_self hp h3 _, some ⟨w.heap.size, 0, none⟩, ys :: L, ?_, ?_, by rw [joined, h6]⟩, o2⟩
      · rw [List.length_append, hl, show ((zs.length + n : Nat) : Int) = (zs.length : Int) + (n : Int) by omega]
        exact hput.kept ha
      · rw [hs1] at hnew hsz
        refine ⟨w.heap.size, q, A, c, rfl, .inr ⟨Nat.le_refl _, by omega⟩, by rw [hl]; exact hnew, ?_, by omega, by omega, fun x hx => hext _ (hA x hx), (h5.only o2 (fun b hb hP => h3 (hb ▸ hP))).mono hext⟩
        rw [hl]
        exact row_keep hr o2 (fun x hx e => h3 (e ▸ hA x hx)))
    clear h4 h5 h6 h1 h2 h3 hA hr
    go_enter Try.func32, Try.ntmps32
    go_wp2
    go_end0
    exact ⟨rfl, HE.out⟩
end Go.Proofs.Ytjfgnoidoeaaeaa
