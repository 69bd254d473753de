/-
  A ring of a law's own, its calls, and the law's example; conditions: as each states.
-/
import Derived.Test.YtcecommnpdfhgaaRgW
import Derived.Test.YtcecommnpdfhgaaRgN
namespace Go.Proofs.Ytcecommnpdfhgaa
open Go.RowKit
set_option linter.unusedVariables false
set_option linter.unusedSimpArgs false

theorem fill_wears (S : Fs) (P : Pt) (s : Nat) (c : List Int) : (fillS S P s c).2.wear.length = S.wear.length ∧ (fillS S P s c).2.ops ≤ S.ops + 2 := by
  have h1 := aErase_wears S P (s : Int)
  have h2 := aProg_wears S P (s : Int) 0 c
  have h3 := aProg_wears (aErase S P (s : Int)).2 P (s : Int) 0 c
  unfold fillS
  split
  · exact ⟨h2.1, by omega⟩
  · split
    · exact ⟨h1.1, by omega⟩
    · exact ⟨h3.1.trans h1.1, by omega⟩
theorem few_fill {S : Fs} (h : Few S) (P : Pt) (s : Nat) (c : List Int) : Few (fillS S P s c).2 := by
  unfold fillS
  split
  · exact few_aProg h _ _ _ _
  · split
    · exact few_aErase h _ _
    · exact few_aProg (few_aErase h _ _) _ _ _ _
theorem put_wears (S : Fs) (P : Pt) (zs : List Int) : (putR S P zs).2.wear.length = S.wear.length ∧ (putR S P zs).2.ops ≤ S.ops + 2 := by
  have h := fill_wears S P (hdOf S P).next (cellL ((hdOf S P).seq + 1) zs)
  unfold putR
  split
  · exact ⟨rfl, by simp only []; omega⟩
  · split
    · exact ⟨rfl, by simp only []; omega⟩
    · split
      · exact ⟨rfl, by simp only []; omega⟩
      · exact h
theorem few_put {S : Fs} (hf : Few S) (P : Pt) (zs : List Int) : Few (putR S P zs).2 := by
  have h := few_fill hf P (hdOf S P).next (cellL ((hdOf S P).seq + 1) zs)
  unfold putR
  split
  · exact hf
  · split
    · exact hf
    · split
      · exact hf
      · exact h
/-- A ring of the law's own. -/
structure Rg (w0 w : World) (T x g m k : Nat) (S : Fs) (P : Pt) : Prop where
  ar : Ar w x g P
  fl : Fl w T g m k S
  nin : ¬ In3 g m k x
  hx : w0.heap.size ≤ x
  hg : w0.heap.size ≤ g
  hm : w0.heap.size ≤ m
  hk : w0.heap.size ≤ k
  bel : Below w0.heap.size w0 w
  pok : P.Ok S.wear.length
  few : Few S
theorem Rg.kept {w0 w w' : World} {T x g m k : Nat} {S : Fs} {P : Pt} (h : Rg w0 w T x g m k S P) (b : Below w.heap.size w w') : Rg w0 w' T x g m k S P :=
  ⟨h.ar.kept b, h.fl.kept b, h.nin, h.hx, h.hg, h.hm, h.hk, h.bel.trans (b.mono h.bel.size), h.pok, h.few⟩
theorem Rg.lit {w0 w : World} {T x g m k : Nat} {S : Fs} {P : Pt} (h : Rg w0 w T x g m k S P) (o : Obj) : Rg w0 (w.alloc o) T x g m k S P := h.kept ((Below.refl _ w).alloc (Nat.le_refl _) o)
theorem Rg.drew {w0 w : World} {T x g m k : Nat} {S : Fs} {P : Pt} (h : Rg w0 w T x g m k S P) : Rg w0 w.drew T x g m k S P := h.kept (Below.refl _ w).drew
theorem Rg.to {w0 w w' : World} {T x g m k : Nat} {S S' : Fs} {P : Pt} (h : Rg w0 w T x g m k S P) (t : FlTo T g m k S' w w') (hw : S'.wear.length = S.wear.length) (hf : Few S') : Rg w0 w' T x g m k S' P :=
  ⟨Has.only h.ar t.2 h.nin, t.1, h.nin, h.hx, h.hg, h.hm, h.hk, h.bel.trans (t.2.to_below h.bel.size (by rintro b (rfl | rfl | rfl); exact h.hg; exact h.hm; exact h.hk)), by rw [hw]; exact h.pok, hf⟩
/-- What a Put leaves. -/
def PutTo (w0 : World) (T x g m k : Nat) (S : Fs) (P : Pt) (zs : List Int) (w : World) (e : Ending) (w' : World) : Prop :=
  e = .returned (.int .i64 (putR S P zs).1) ∧ Rg w0 w' T x g m k (putR S P zs).2 P ∧ Only (In3 g m k) w w'
theorem rg_put {w0 w : World} {T x g m k : Nat} {S : Fs} {P : Pt} (h : Rg w0 w T x g m k S P) (hops : S.ops ≤ 999999) {A : Option Addr} {n : Nat} (z : Nat) {zs : List Int} (hr : Row w A n zs) :
    Calls Try.prog 10 #[.pointer (some ⟨x, 0, none⟩), .slice A n z] w (PutTo w0 T x g m k S P zs w) :=
  (put_ring A n z zs w h.ar h.nin h.fl h.few hops h.pok hr).mono fun e w' ⟨he, t⟩ => ⟨he, h.to t (put_wears S P zs).1 (few_put h.few P zs), t.2⟩
theorem rg_last {w0 w : World} {T x g m k : Nat} {S : Fs} {P : Pt} (h : Rg w0 w T x g m k S P) : Calls Try.prog 13 #[.pointer (some ⟨x, 0, none⟩)] w (Lasts (hdOf S P) w) := last_any w h.ar h.fl h.pok
theorem rg_next {w0 w : World} {T x g m k : Nat} {S : Fs} {P : Pt} (h : Rg w0 w T x g m k S P) : Calls Try.prog 15 #[.pointer (some ⟨x, 0, none⟩)] w fun e w' => e = .returned (.int .i64 ((hdOf S P).next : Int)) ∧ Below w.heap.size w w' := nexts_any w h.ar h.fl h.pok
theorem rg_may {w0 w : World} {T x g m k : Nat} {S : Fs} {P : Pt} (h : Rg w0 w T x g m k S P) (hops : S.ops ≤ 1000000) : Calls Try.prog 14 #[.pointer (some ⟨x, 0, none⟩)] w fun e w' => e = .returned (.bool (mayR S P)) ∧ Below w.heap.size w w' := mays_any w h.ar h.fl h.few hops h.pok
theorem lnum_any (n : Int) (w : World) : Calls Try.prog 9 #[.int .i64 n] w fun e w' => e = .returned (.int .i64 n) ∧ w = w' := by
  go_enter Try.func9, Try.ntmps9
  go_wp2
  go_ret
  exact ⟨rfl, rfl⟩
theorem rg_len (n : Nat) : (fresh n).wear.length = n := List.length_replicate
theorem made4 {b : Int} (h : 0 ≤ b ∧ b ≤ 1000) : Pt.made 4 0 4 b = ⟨0, 4, b.toNat⟩ := by
  unfold Pt.made
  rw [if_pos (by omega), show min (max b 0) 1000 = b by omega]
  rfl
/-- A ring of four sectors that is new. -/
theorem rg_made {w0 w1 w2 : World} {g m k x : Nat} {b : Int} (hb : 0 ≤ b ∧ b ≤ 1000) (hg : w0.heap.size ≤ g) (hm : w0.heap.size ≤ m) (hk : w0.heap.size ≤ k) (f1 : Fl w1 w1.heap.size g m k (fresh 4)) (b1 : Below w0.heap.size w0 w1)
    (hx : w1.heap.size ≤ x) (a2 : Ar w2 x g ⟨0, 4, b.toNat⟩) (b2 : Below w1.heap.size w1 w2) : Rg w0 w2 w1.heap.size x g m k (fresh 4) ⟨0, 4, b.toNat⟩ :=
  ⟨a2, f1.kept b2, fun e => by have := f1.lt e; omega, by have := b1.size; omega, hg, hm, hk, b1.trans (b2.mono b1.size), by rw [rg_len]; exact ⟨by simp, by omega, by simp only []; omega⟩, few_fresh 4⟩
theorem rn_made {b : Int} (hb : 0 ≤ b ∧ b ≤ 1000) (f : Nat → List Int) : Rn (fresh 4) ⟨0, 4, b.toNat⟩ f 0 := Rn.zero (by omega) ⟨by simp, by omega, by simp only []; omega⟩ (by simp) f
theorem sect4 : sect 4 = 4 := rfl
theorem i64_of {a : Int} (h : -1000000 ≤ a ∧ a ≤ 1000000) : I64 a := ⟨by omega, by omega⟩
theorem row_new (w : World) {x : Int} (hx : 0 ≤ x ∧ x ≤ 255) : Row (w.alloc (.cells #[.int .u8 x] 5)) (some ⟨w.heap.size, 0, none⟩) 1 [x] := row_text w [x] (fun y hy => by simp at hy; omega) 1 rfl (0, 0)
set_option maxRecDepth 100000 in
set_option maxHeartbeats 1000000 in
theorem alive_any (w : World) : Calls Try.prog 6 #[] w fun e w' => e = .returned (.bool true) ∧ Below w.heap.size w w' := by
  have hn := Lib.hid (new_any 4 w)
  have r0 := rn_made (b := 3) (by omega) (fun _ => [120])
  have s1 := r0.step (by omega) (by decide) (fun y hy => by simp at hy; omega) (by simp)
  have h0 := r0.hd (by omega)
  have h1 := s1.2.2.hd (by omega)
  have N1 := Lib.hid h1
  have E1 := Lib.hid s1.1
  have N0 := Lib.hid h0
  have O0 := Lib.hid (show (fresh 4).ops ≤ 999999 by simp [fresh])
  clear r0 s1 h0 h1
  go_enter Try.func6, Try.ntmps6
  go_wp2_with (first
    | (go_at_call 7; (with_reducible refine hn.out.mono ?_); rintro e w1 ⟨g, m, k, rfl, hg, hm, hk, f1, b1⟩; rw [sect4] at f1; have HN := newArea_any 0 0 4 3 w1 f1 ⟨i64_of (by omega), i64_of (by omega), i64_of (by omega)⟩; rw [rg_len, made4 (by omega)] at HN; unfold capCells at HN)
    | (go_at_call 8; (with_reducible refine HN.mono ?_); rintro e w2 ⟨x, rfl, hx, a2, b2⟩; clear HN; have R2 := Lib.hid (rg_made (b := 3) (by omega) hg hm hk f1 b1 hx a2 b2); have HL1 := Lib.hid (rg_last R2.out); rw [N0.out] at HL1; clear hg hm hk f1 b1 hx a2 b2 hn)
    | (go_at_call 13; (with_reducible refine HL1.out.mono ?_); rintro e w3 ⟨v3, rfl, o3, b3⟩; clear HL1; have hcv := Lib.run_convert_bytes_const (P := Try.prog) w3 31 5 #[.int .u8 120] 1 1 Try.underlying31 Try.underlying5; have R3 := Lib.hid ((R2.out.kept b3).lit (.cells #[.int .u8 120] 5 (1, 2))); have HP := Lib.hid (rg_put R3.out O0.out 1 (row_text w3 [120] (fun y hy => by simp at hy; omega) 1 rfl (1, 2))); clear R2 o3 b3)
    | (go_at_call 10; (with_reducible refine HP.out.mono ?_); rintro e w4 ⟨rfl, R4', _⟩; clear HP R3 hcv; have R4 := Lib.hid R4'; rw [E1.out]; have HL2 := Lib.hid (rg_last R4.out); rw [N1.out] at HL2; clear R4')
    | (go_at_call 13; (with_reducible refine HL2.out.mono ?_); rintro e w5 ⟨v5, rfl, o5, b5⟩; clear HL2 o5; have R5 := Lib.hid (R4.out.kept b5); have HX := Lib.hid (rg_next R5.out); rw [N1.out] at HX; clear b5)
    | (go_at_call 9; (with_reducible refine (lnum_any _ _).mono ?_); rintro e w6 ⟨rfl, rfl⟩)
    | (go_at_call 15; (with_reducible refine HX.out.mono ?_); rintro e w7 ⟨rfl, b7⟩; have R7 := Lib.hid (R5.out.kept b7)))
  go_ret
  exact ⟨rfl, R7.out.bel⟩
end Go.Proofs.Ytcecommnpdfhgaa
