/-
  The document's own writer; conditions: the writer is there, its bytes are not many.
-/
import Derived.Test.YtjfgnoidoeaaeaaWn
namespace Go.Proofs.Ytjfgnoidoeaaeaa
open Go.RowKit
set_option linter.unusedVariables false
set_option linter.unusedSimpArgs false

/-- out = append(out, xs...), and where out lies then. -/
theorem wpList_app2 {w : World} {ops : Array Oper} {rest : List Oper} {o : Oper} {a : Act} {Q : Exit → Act → World → Prop} (hgd : o.guard = none) (s x : Operand)
    (ho : o.op = .call { callee := .builtin .append, args := #[s, x], argTypes := #[22, 22] })
    (base : Nat) (v : Value) (n : Nat) (xs : List Int) (hs : a.eval s = v) (hown : Own w base v n xs) (ad : Addr) (m c : Nat) (ys : List Int) (hx : a.eval x = .slice (some ad) m c) (hr : Row w (some ad) m ys)
    (h63 : n + m ≤ 1000000) (hbase : base ≤ w.heap.size)
    (h : ∀ v' w', Own w' base v' (n + m) (xs ++ ys) → w.grownBy w' v.ownBlock → (v'.ownBlock = v.ownBlock ∨ v'.ownBlock = some w.heap.size) → wpList Try.prog ops Q rest (a.put o.dst v') w') : wpList Try.prog ops Q (o :: rest) a w := by
  refine wpList_plain hgd fun K hK => ?_
  obtain ⟨i, hi, hz0, hz1, hz2⟩ := info_parts info5
  obtain ⟨v', w', hrun, h2, h3, _, h4⟩ := run_append_own_at (P := Try.prog) w base 22 o.type 5 i (.int .u8 0) 1 1 Try.underlying22 hi hz0 hz1 hz2 rfl (by decide) v n (nums xs) hown.1 ad m c (nums ys) (by rw [nums_len, hr.1]; omega) (row_cells hr) (nums_one ys) (by unfold maxLen; omega) (by omega) hbase
  unfold Oper.wp execOp
  simp only [ho, resolve, invoke, builtin, Sem.run_bind, Sem.run_pure, Result.andThen_ok, List.map_toArray, List.map_cons, List.map_nil, hs, hx, hrun]
  exact hK _ _ (h v' w' ⟨by rw [← nums_app]; exact h2, byt_app hown.2 hr.2.1⟩ h3 h4)
theorem Own.stay {w w' : World} {base : Nat} {v : Value} {n : Nat} {zs : List Int} (h : Own w base v n zs) (hs : ∀ g, v.ownBlock = some g → w'.heap[g]? = w.heap[g]?) : Own w' base v n zs := by
  obtain ⟨⟨h1, h2⟩, h3⟩ := h
  refine ⟨⟨h1, ?_⟩, h3⟩
  rcases h2 with h2 | ⟨g, cap, cur, e1, e2, e3, e4⟩
  · exact .inl h2
  · exact .inr ⟨g, cap, cur, e1, e2, (hs g (by rw [e1]; rfl)).trans e3, e4⟩
theorem Own.lt {w : World} {base : Nat} {v : Value} {n : Nat} {zs : List Int} (h : Own w base v n zs) : ∀ g, v.ownBlock = some g → g < w.heap.size := by
  intro g hg
  exact (h.1.lt g hg).2
/-- The document's writer at block p, its row in a block of P. -/
def Rw (w : World) (p : Nat) (P : Nat → Prop) (zs : List Int) : Prop := zs.length ≤ 1000000 ∧ ¬ P p ∧ ∃ v, Has w p 65 #[v] ∧ Own w 0 v zs.length zs ∧ ∀ g, v.ownBlock = some g → P g
theorem Rw.mono {w : World} {p : Nat} {P P' : Nat → Prop} {zs : List Int} (h : Rw w p P zs) (hP : ∀ b, P b → P' b) (hp : ¬ P' p) : Rw w p P' zs := by
  obtain ⟨h1, h2, v, h3, h4, h5⟩ := h
  exact ⟨h1, hp, v, h3, h4, fun g hg => hP _ (h5 g hg)⟩
theorem Rw.at {w : World} {p : Nat} {P : Nat → Prop} {zs : List Int} (h : Rw w p P zs) : p < w.heap.size := by
  obtain ⟨_, _, v, h4, _⟩ := h
  exact h4.size
theorem Rw.only {w w' : World} {p : Nat} {P X : Nat → Prop} {zs : List Int} (h : Rw w p P zs) (o : Only X w w') (hX : ∀ b, X b → b ≠ p ∧ ¬ P b) : Rw w' p P zs := by
  obtain ⟨h1, h2, v, h3, h4, h5⟩ := h
  exact ⟨h1, h2, v, h3.only o (fun x => (hX _ x).1 rfl), h4.stay (fun g hg => o.block g (h4.lt g hg) (fun x => (hX _ x).2 (h5 g hg))), h5⟩
/-- What its call leaves. -/
def RwTo (p : Nat) (P : Nat → Prop) (zs : List Int) (w w' : World) : Prop := Rw w' p (Plus P w w') zs ∧ Only (fun b => b = p ∨ P b) w w'
theorem RwTo.refl {p : Nat} {P : Nat → Prop} {zs : List Int} {w : World} (h : Rw w p P zs) : RwTo p P zs w w := ⟨h.mono (fun b hb => .inl hb) (plus_self h.at h.2.1 _), Only.refl _ _⟩
theorem rw_keep {p : Nat} {P : Nat → Prop} {w wr w2 : World} {v : Value} {o : Obj} (hp : p < w.heap.size) (hP : ¬ P p) (hh : Has wr p 65 #[v]) (hv : ∀ g, v.ownBlock = some g → Plus P w wr g) (h4 : (wr.alloc o).grownBy w2 v.ownBlock) : Has w2 p 65 #[v] :=
  (h4.block p (Nat.lt_of_lt_of_le hh.size (by simp)) (fun e => plus_self hp hP _ (hv p e.symm))).trans (hh.more _)
/-- One byte more. -/
theorem rw_more {p : Nat} {P : Nat → Prop} {xs : List Int} {w wr w2 : World} {v v' : Value} {y : Int} (hp : p < w.heap.size) (hP : ¬ P p) (o : Only (fun b => b = p ∨ P b) w wr) (hh : Has wr p 65 #[v]) (ho : Own wr 0 v xs.length xs) (hv : ∀ g, v.ownBlock = some g → Plus P w wr g)
    (hle : xs.length + 1 ≤ 1000000) (h3 : Own w2 0 v' (xs.length + 1) (xs ++ [y])) (h4 : (wr.alloc (.cells #[.int .u8 y] 5)).grownBy w2 v.ownBlock) (h5 : v'.ownBlock = v.ownBlock ∨ v'.ownBlock = some (wr.alloc (.cells #[.int .u8 y] 5)).heap.size) :
    RwTo p P (xs ++ [y]) w (w2.setCell ⟨p, 0, none⟩ v') := by
  have hsa : (wr.alloc (.cells #[.int .u8 y] 5)).heap.size = wr.heap.size + 1 := by simp
  have hsw : wr.heap.size + 1 ≤ w2.heap.size := by rw [← hsa]; exact h4.size
  have hvp : v.ownBlock ≠ some p := fun e => plus_self hp hP _ (hv p e)
  have hws := o.size
  have oa : Only (fun b => v.ownBlock = some b) (wr.alloc (.cells #[.int .u8 y] 5)) w2 := ⟨h4.os, h4.tape, h4.output, h4.size, fun b hb hn => h4.block b hb (fun e => hn e.symm)⟩
  have o2 : Only (fun b => b = p ∨ P b) w w2 := by
    have q1 : Only (fun b => b = p ∨ P b) w (wr.alloc (.cells #[.int .u8 y] 5)) := o.alloc _
    refine ⟨oa.os.trans q1.os, oa.tape.trans q1.tape, oa.output.trans q1.output, Nat.le_trans q1.size oa.size, fun b hb hn => (oa.block b (Nat.lt_of_lt_of_le hb q1.size) (fun e => ?_)).trans (q1.block b hb hn)⟩
    rcases hv b e with h | h
    · exact hn (.inr h)
    · omega
  have hh2 : Has w2 p 65 #[v] := (hh.more _).only oa hvp
  have hs3 : (w2.setCell ⟨p, 0, none⟩ v').heap.size = w2.heap.size := by simp [World.setCell]
  have hlen : (xs ++ [y]).length = xs.length + 1 := by simp
  have hv' : ∀ g, v'.ownBlock = some g → g ≠ p ∧ Plus P w (w2.setCell ⟨p, 0, none⟩ v') g := by
    intro g hg
    have hlt := h3.lt g hg
    rcases h5 with h5 | h5
    · rw [h5] at hg
      refine ⟨fun e => hvp (e ▸ hg), ?_⟩
      rcases hv g hg with h | h
      · exact .inl h
      · exact .inr (by omega)
    · rw [h5] at hg
      cases hg
      exact ⟨by omega, .inr (by omega)⟩
  refine ⟨⟨by omega, plus_self hp hP _, v', ?_, ?_, fun g hg => (hv' g hg).2⟩, o2.setCell (.inl rfl) _⟩
  · exact hh2.put 0 v'
  · rw [hlen]
    exact h3.stay (fun g hg => heap_setCell_other w2 _ g _ (hv' g hg).1)
/-- So many bytes of a row are written behind what was there. -/
def Adding (p : Nat) (P : Nat → Prop) (zs os : List Int) (w : World) (j : Nat) (wr : World) : Prop := j ≤ os.length ∧ RwTo p P (zs ++ os.take j) w wr
set_option maxRecDepth 100000 in
theorem rwnum_any {p : Nat} {P : Nat → Prop} {zs : List Int} (n s : Int) (w : World) (hw : Rw w p P zs) (hle : zs.length ≤ 900000) :
    Calls Try.prog 28 #[.pointer (some ⟨p, 0, none⟩), .int .i64 n, .int .i64 s] w (Done (RwTo p P (zs ++ numL n (cutN s 8)) w)) := by
  have HC := Lib.hid (rcut8 s w)
  have hk := cut_le s 8
  generalize cutN s 8 = k at *
  have hp := hw.at
  have hP := hw.2.1
  have hnl := num_len n k
  have HS := Lib.hid (show Adding p P zs (numL n k) w 0 w from ⟨by omega, by rw [List.take_zero, List.append_nil]; exact .refl hw⟩)
  clear hw
  go_enter Try.func28, Try.ntmps28
  go_wp2_with (go_at_call 38; (with_reducible refine HC.out.mono ?_); rintro e w1 ⟨rfl, rfl⟩)
  clear HC
  go_loopw [6] (fun i wr => ∃ j : Nat, j ≤ k ∧ i = .int .i64 ((k : Int) - (j : Int) - 1) ∧ Adding p P zs (numL n k) w j wr) (fun i _ => ((intOf i) + 1).toNat)
  case atStart => exact ⟨0, by omega, by simp, HS.out⟩
  case round =>
    clear HS
    obtain ⟨j, hj, rfl, _, ⟨⟨h1, h2, v, h3, h4, h5⟩, ho⟩⟩ := hrel
    by_cases hlt : j < k
    · obtain ⟨d, hd⟩ : ∃ d, k - j - 1 = d := ⟨_, rfl⟩
      have hdi : (k : Int) - (j : Int) - 1 = (d : Int) := by omega
      rw [hdi]
      have hby := byte_u64 n d (by omega)
      have hat := num_at n k j hlt
      rw [show k - 1 - j = d by omega] at hat
      have hbd := byte_bd (n / 256 ^ d)
      have HT := Lib.hid (show (zs ++ (numL n k).take j) ++ [n / 256 ^ d % 256] = zs ++ (numL n k).take (j + 1) by rw [List.append_assoc, ← hat, take_more _ _ (by omega)])
      have hpw := pow_bits d
      have hxl : (zs ++ (numL n k).take j).length = zs.length + j := by rw [List.length_append, List.length_take]; omega
      generalize zs ++ (numL n k).take j = xs at *
      have i0 : (0 : Int) ≤ (d : Int) := by omega
      have i1 : (d : Int) ≤ 7 := by omega
      obtain ⟨N, hN⟩ : ∃ N, xs.length = N := ⟨_, rfl⟩
      obtain ⟨A0, c0, rfl, _, _, _⟩ := h4.form
      have HK := Lib.hid (fun (w2 : World) (v' : Value) => rw_more (v' := v') (w2 := w2) (y := n / 256 ^ d % 256) hp hP ho h3 h4 h5 (by omega))
      have hNle : N + 1 ≤ 1000000 := by omega
      rw [hN] at h3 h4 h5 HK
      clear hN hxl
      have q0 : (wr.alloc (.cells #[.int .u8 (n / 256 ^ d % 256)] 5)).cell? ⟨p, 0, none⟩ = some (.slice A0 N c0) := (h3.more _).at 0
      have q0' : wr.cell? ⟨p, 0, none⟩ = some (.slice A0 N c0) := h3.at 0
      have hr2 := row_one wr hbd
      have ho2 := h4.kept (w' := wr.alloc (.cells #[.int .u8 (n / 256 ^ d % 256)] 5)) ((Below.refl _ wr).alloc (Nat.le_refl _) _)
      have HH := Lib.hid (fun (w2 : World) (q : (wr.alloc (.cells #[.int .u8 (n / 256 ^ d % 256)] 5)).grownBy w2 (Value.slice A0 N c0).ownBlock) => rw_keep hp hP h3 h5 q)
      clear hat hby hpw h3 h4 h5 ho h2
      have hby := byte_u64 n d (by omega)
      have hpw := pow_bits d
      generalize hy : n / 256 ^ d % 256 = y at *
      go_wp2_with (at_builtin; (with_reducible refine wpList_app2 rfl _ _ rfl 0 (.slice A0 N c0) N xs rfl ho2 _ _ _ [y] rfl hr2 (by omega) (Nat.zero_le _) ?_); intro v' w2 g3 g4 g5; obtain ⟨A2, c2, rfl, _, _, _⟩ := g3.form; have g6 := HH.out w2 g4; have g7 := g6.at 0; have g8 := g6.soft 0; have HE := Lib.hid (HK.out w2 _ g3 g4 g5); clear HK HH ho2 hr2 q0)
      go_roundw
      case rel => exact ⟨j + 1, by omega, by rw [show (d : Int) - 1 = (k : Int) - ((j + 1 : Nat) : Int) - 1 by omega], by omega, by rw [← HT.out]; exact HE.out⟩
      case measure => simp [intOf]
    · obtain rfl : j = k := by omega
      have hi : ¬ (0 : Int) ≤ (j : Int) - (j : Int) - 1 := by omega
      have HE := Lib.hid (show RwTo p P (zs ++ numL n j) w wr by
        rw [List.take_of_length_le (by omega)] at h1 h4
        exact ⟨⟨h1, h2, v, h3, h4, h5⟩, ho⟩)
      clear h1 h2 h3 h4 h5 ho
      generalize (j : Int) - (j : Int) - 1 = i at *
      go_wp2
      go_end0
      exact ⟨rfl, HE.out⟩
end Go.Proofs.Ytjfgnoidoeaaeaa
