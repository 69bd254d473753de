/-
  Both writers beside each other, the program's and the document's own; conditions: they are there, they share no block, their bytes are not many.
-/
import Derived.Test.YtjocpfkobojchaaReadc
namespace Go.Proofs.Ytjocpfkobojchaa
open Go.RowKit
set_option linter.unusedVariables false
set_option linter.unusedSimpArgs false

/-- Both writers, from block 'base' on. -/
def Bo (base p q : Nat) (zs ys : List Int) (w : World) : Prop :=
  ∃ P Q : Nat → Prop, Wr w p P zs ∧ Rw w q Q ys ∧ (∀ b, P b → base ≤ b ∧ b < w.heap.size ∧ ¬ Q b ∧ b ≠ q) ∧ (∀ b, Q b → base ≤ b ∧ b < w.heap.size ∧ b ≠ p) ∧ base ≤ p ∧ base ≤ q ∧ p ≠ q
theorem Bo.kept {base p q : Nat} {zs ys : List Int} {w w' : World} (h : Bo base p q zs ys w) (hb : Below w.heap.size w w') : Bo base p q zs ys w' := by
  obtain ⟨P, Q, h1, h2, h3, h4, h5, h6, h7⟩ := h
  exact ⟨P, Q, h1.kept hb, h2.only (X := fun _ => False) (Only.of_below hb) (fun b hb => hb.elim), fun b hb' => ⟨(h3 b hb').1, Nat.lt_of_lt_of_le (h3 b hb').2.1 hb.size, (h3 b hb').2.2⟩, fun b hb' => ⟨(h4 b hb').1, Nat.lt_of_lt_of_le (h4 b hb').2.1 hb.size, (h4 b hb').2.2⟩, h5, h6, h7⟩
theorem Bo.drew {base p q : Nat} {zs ys : List Int} {w : World} (h : Bo base p q zs ys w) : Bo base p q zs ys w.drew := h.kept ((Below.refl _ w).drew)
/-- What a call on either leaves. -/
def BoTo (base p q : Nat) (zs ys : List Int) (w w' : World) : Prop := Bo base p q zs ys w' ∧ Below base w w'
theorem bo_wr {base p q : Nat} {ys zs' : List Int} {w w' : World} {P Q : Nat → Prop} (h2 : Rw w q Q ys) (h3 : ∀ b, P b → base ≤ b ∧ b < w.heap.size ∧ ¬ Q b ∧ b ≠ q) (h4 : ∀ b, Q b → base ≤ b ∧ b < w.heap.size ∧ b ≠ p) (h5 : base ≤ p) (h6 : base ≤ q) (h7 : p ≠ q) (hp : p < w.heap.size) (h : WrTo p P zs' w w') : BoTo base p q zs' ys w w' := by
  have hq := h2.at
  have hs := h.2.size
  refine ⟨⟨Plus P w w', Q, h.1, h2.only h.2 (fun b e => ⟨by omega, fun x => (h4 b x).2.2 e⟩), ?_, fun b hb => ⟨(h4 b hb).1, Nat.lt_of_lt_of_le (h4 b hb).2.1 hs, (h4 b hb).2.2⟩, h5, h6, h7⟩, h.2.to_below (by omega) (fun b e => by omega)⟩
  rintro b (hb | hb)
  · exact ⟨(h3 b hb).1, Nat.lt_of_lt_of_le (h3 b hb).2.1 hs, (h3 b hb).2.2⟩
  · exact ⟨by omega, hb.2, fun x => by have := (h4 b x).2.1; omega, by omega⟩
theorem bo_rw {base p q : Nat} {zs ys' : List Int} {w w' : World} {P Q : Nat → Prop} (h1 : Wr w p P zs) (h3 : ∀ b, P b → base ≤ b ∧ b < w.heap.size ∧ ¬ Q b ∧ b ≠ q) (h4 : ∀ b, Q b → base ≤ b ∧ b < w.heap.size ∧ b ≠ p) (h5 : base ≤ p) (h6 : base ≤ q) (h7 : p ≠ q) (hq : q < w.heap.size) (h : RwTo q Q ys' w w') : BoTo base p q zs ys' w w' := by
  have hp := h1.at
  have hs := h.2.size
  refine ⟨⟨P, Plus Q w w', h1.only h.2 ?_, h.1, ?_, ?_, h5, h6, h7⟩, h.2.to_below (by omega) ?_⟩
  · rintro b (e | e)
    · exact ⟨by omega, fun x => (h3 b x).2.2.2 e⟩
    · exact ⟨(h4 b e).2.2, fun x => (h3 b x).2.2.1 e⟩
  · intro b hb
    refine ⟨(h3 b hb).1, Nat.lt_of_lt_of_le (h3 b hb).2.1 hs, ?_, (h3 b hb).2.2.2⟩
    rintro (e | e)
    · exact (h3 b hb).2.2.1 e
    · have := (h3 b hb).2.1; omega
  · rintro b (hb | hb)
    · exact ⟨(h4 b hb).1, Nat.lt_of_lt_of_le (h4 b hb).2.1 hs, (h4 b hb).2.2⟩
    · exact ⟨by omega, hb.2, by omega⟩
  · rintro b (e | e)
    · omega
    · exact (h4 b e).1
theorem bo_num {base p q : Nat} {zs ys : List Int} (n s : Int) (w : World) (hn : I64 n) (h : Bo base p q zs ys w) (hle : zs.length ≤ 900000) : Calls Try.prog 10 #[.pointer (some ⟨p, 0, none⟩), .int .i64 n, .int .i64 s] w (Done (BoTo base p q (zs ++ numL n (cutN s 8)) ys w)) := by
  obtain ⟨P, Q, h1, h2, h3, h4, h5, h6, h7⟩ := h
  exact (wnum_any n s w hn h1 hle).mono fun e w' ⟨r1, r2⟩ => ⟨r1, bo_wr h2 h3 h4 h5 h6 h7 h1.at r2⟩
theorem bo_raw {base p q : Nat} {zs ys : List Int} (A : Option Addr) (m c : Nat) (bs : List Int) (s : Int) (w : World) (hr : Row w A m bs) (h : Bo base p q zs ys w) (hle : zs.length ≤ 900000) : Calls Try.prog 8 #[.pointer (some ⟨p, 0, none⟩), .slice A m c, .int .i64 s] w (Done (BoTo base p q (zs ++ rawL bs (cutN s 1000)) ys w)) := by
  obtain ⟨P, Q, h1, h2, h3, h4, h5, h6, h7⟩ := h
  exact (wraw_any A m c bs s w hr h1 hle).mono fun e w' ⟨r1, r2⟩ => ⟨r1, bo_wr h2 h3 h4 h5 h6 h7 h1.at r2⟩
theorem bo_rnum {base p q : Nat} {zs ys : List Int} (n s : Int) (w : World) (h : Bo base p q zs ys w) (hle : ys.length ≤ 900000) : Calls Try.prog 11 #[.pointer (some ⟨q, 0, none⟩), .int .i64 n, .int .i64 s] w (Done (BoTo base p q zs (ys ++ numL n (cutN s 8)) w)) := by
  obtain ⟨P, Q, h1, h2, h3, h4, h5, h6, h7⟩ := h
  exact (rwnum_any n s w h2 hle).mono fun e w' ⟨r1, r2⟩ => ⟨r1, bo_rw h1 h3 h4 h5 h6 h7 h2.at r2⟩
theorem bo_rraw {base p q : Nat} {zs ys : List Int} (A : Option Addr) (m c : Nat) (bs : List Int) (s : Int) (w : World) (hr : Row w A m bs) (hA : Lies A m base) (h : Bo base p q zs ys w) (hle : ys.length ≤ 900000) : Calls Try.prog 9 #[.pointer (some ⟨q, 0, none⟩), .slice A m c, .int .i64 s] w (Done (BoTo base p q zs (ys ++ rawL bs (cutN s 1000)) w)) := by
  obtain ⟨P, Q, h1, h2, h3, h4, h5, h6, h7⟩ := h
  refine (rwraw_any A m c bs s w hr (fun h0 x hx => ⟨fun e => ?_, fun e => ?_⟩) h2 hle).mono fun e w' ⟨r1, r2⟩ => ⟨r1, bo_rw h1 h3 h4 h5 h6 h7 h2.at r2⟩
  · have := hA h0 x hx; omega
  · have := hA h0 x hx; have := (h4 _ e).1; omega
theorem bo_new (w : World) (base : Nat) (hb : base ≤ w.heap.size) : Bo base w.heap.size (w.heap.size + 1) [] [] ((w.alloc (.cells #[.pointer none, .int .i64 0] 27)).alloc (.cells #[.slice none 0 0] 31)) := by
  have hs : (w.alloc (.cells #[.pointer none, .int .i64 0] 27)).heap.size = w.heap.size + 1 := by simp
  refine ⟨fun _ => False, fun _ => False, (wnew w).kept ((Below.refl _ _).alloc (Nat.le_refl _) _), ⟨by simp, fun h => h, .slice none 0 0, ?_, own_nil _ _, fun g hg => by simp [Value.ownBlock] at hg⟩, fun b h => h.elim, fun b h => h.elim, hb, by omega, by omega⟩
  have := has_new (w.alloc (.cells #[.pointer none, .int .i64 0] 27)) 31 #[.slice none 0 0]
  rw [hs] at this
  exact this
end Go.Proofs.Ytjocpfkobojchaa
