/-
  The document's own writer is told a row; conditions: the writer is there, its bytes are not many, the row does not lie in it.
-/
import Derived.Test.YthkgbcchnneloaaRw
namespace Go.Proofs.Ythkgbcchnneloaa
open Go.RowKit
set_option linter.unusedVariables false
set_option linter.unusedSimpArgs false

set_option maxRecDepth 100000 in
theorem rwraw_any {p : Nat} {P : Nat → Prop} {zs : List Int} (A : Option Addr) (m cap : Nat) (ys : List Int) (s : Int) (w : World) (hr : Row w A m ys) (hA : 0 < m → ∀ x, A = some x → x.block ≠ p ∧ ¬ P x.block) (hw : Rw w p P zs) (hle : zs.length ≤ 900000) :
    Calls Try.prog 43 #[.pointer (some ⟨p, 0, none⟩), .slice A m cap, .int .i64 s] w (Done (RwTo p P (zs ++ rawL ys (cutN s 1000)) w)) := by
  have HC := Lib.hid (fun w => rcut1000 s w)
  have hk := cut_le s 1000
  generalize cutN s 1000 = k at *
  have hp := hw.at
  have hP := hw.2.1
  have hnl := raw_len ys k
  have HS := Lib.hid (show Adding p P zs (rawL ys k) w 0 w from ⟨by omega, by rw [List.take_zero, List.append_nil]; exact .refl hw⟩)
  have HR := Lib.hid (fun (wr : World) (o : Only (fun b => b = p ∨ P b) w wr) => row_stays hr o (fun h0 x hx e => e.elim (hA h0 x hx).1 (hA h0 x hx).2))
  have HL := Lib.hid hr.1
  clear hw hr hA
  go_enter Try.func43, Try.ntmps43
  go_wp2
  go_loopw [6] (fun i wr => ∃ j : Nat, j ≤ k ∧ i = .int .i64 (j : Int) ∧ Adding p P zs (rawL ys k) w j wr) (fun i _ => k - (intOf i).toNat)
  case atStart => exact ⟨0, by omega, rfl, HS.out⟩
  case round =>
    clear HS
    obtain ⟨j, hj, rfl, _, ⟨⟨h1, h2, v, h3, h4, h5⟩, ho⟩⟩ := hrel
    by_cases hlt : j < k
    · have hat := raw_at ys k j hlt
      have HT := Lib.hid (show (zs ++ (rawL ys k).take j) ++ [ys.getD j 0] = zs ++ (rawL ys k).take (j + 1) by rw [List.append_assoc, ← hat, take_more _ _ (by omega)])
      have hxl : (zs ++ (rawL ys k).take j).length = zs.length + j := by rw [List.length_append, List.length_take]; omega
      generalize zs ++ (rawL ys k).take j = xs at *
      have hrr := HR.out wr ho
      have hbd := byt_at hrr.2.1 j
      obtain ⟨N, hN⟩ : ∃ N, xs.length = N := ⟨_, rfl⟩
      obtain ⟨A0, c0, rfl, _, _, _⟩ := h4.form
      have HK := Lib.hid (fun (w2 : World) (v' : Value) => rw_more (v' := v') (w2 := w2) (y := ys.getD j 0) hp hP ho h3 h4 h5 (by omega))
      have hNle : N + 1 ≤ 1000000 := by omega
      rw [hN] at h3 h4 h5 HK
      clear hN hxl hat
      have i0 : (0 : Int) ≤ (j : Int) := by omega
      by_cases hjm : j < m
      · obtain ⟨b, off, rfl, hbw, hcell⟩ := row_open hrr (by omega)
        have hck := hcell j hjm
        have i1 : (j : Int) < (m : Int) := by omega
        clear hcell
        generalize ys.getD j 0 = y at *
        have q0 : (wr.alloc (.cells #[.int .u8 y] 5)).cell? ⟨p, 0, none⟩ = some (.slice A0 N c0) := (h3.more _).at 0
        have q0' : wr.cell? ⟨p, 0, none⟩ = some (.slice A0 N c0) := h3.at 0
        have hr2 := row_one wr hbd
        have ho2 := h4.kept (w' := wr.alloc (.cells #[.int .u8 y] 5)) ((Below.refl _ wr).alloc (Nat.le_refl _) _)
        have HH := Lib.hid (fun (w2 : World) (q : (wr.alloc (.cells #[.int .u8 y] 5)).grownBy w2 (Value.slice A0 N c0).ownBlock) => rw_keep hp hP h3 h5 q)
        clear h3 h4 h5 ho h2 hrr
        go_wp2_with (first
          | (go_at_call 37; (with_reducible refine (HC.out _).mono ?_); rintro e w1 ⟨rfl, rfl⟩)
          | (at_builtin; (with_reducible refine wpList_app2 rfl _ _ rfl 0 (.slice A0 N c0) N xs rfl ho2 _ _ _ [y] rfl hr2 (by omega) (Nat.zero_le _) ?_); intro v' w2 g3 g4 g5; obtain ⟨A2, c2, rfl, _, _, _⟩ := g3.form; have g6 := HH.out w2 g4; have g7 := g6.at 0; have g8 := g6.soft 0; have HE := Lib.hid (HK.out w2 _ g3 g4 g5); clear HK HH ho2 hr2 q0))
        go_roundw
        case rel => exact ⟨j + 1, by omega, by go_num, by omega, by rw [← HT.out]; exact HE.out⟩
        case measure => simp [intOf]; omega
      · have hy0 : ys.getD j 0 = 0 := by
          rw [List.getD_eq_getElem?_getD, List.getElem?_eq_none (by have := HL.out; omega)]
          rfl
        rw [hy0] at HK HT
        have i1 : ¬ (j : Int) < (m : Int) := by omega
        have q0 : (wr.alloc (.cells #[.int .u8 0] 5)).cell? ⟨p, 0, none⟩ = some (.slice A0 N c0) := (h3.more _).at 0
        have q0' : wr.cell? ⟨p, 0, none⟩ = some (.slice A0 N c0) := h3.at 0
        have hr2 := row_one wr (x := 0) (by omega)
        have ho2 := h4.kept (w' := wr.alloc (.cells #[.int .u8 0] 5)) ((Below.refl _ wr).alloc (Nat.le_refl _) _)
        have HH := Lib.hid (fun (w2 : World) (q : (wr.alloc (.cells #[.int .u8 0] 5)).grownBy w2 (Value.slice A0 N c0).ownBlock) => rw_keep hp hP h3 h5 q)
        clear h3 h4 h5 ho h2 hrr hy0 hbd
        go_wp2_with (first
          | (go_at_call 37; (with_reducible refine (HC.out _).mono ?_); rintro e w1 ⟨rfl, rfl⟩)
          | (at_builtin; (with_reducible refine wpList_app2 rfl _ _ rfl 0 (.slice A0 N c0) N xs rfl ho2 _ _ _ [0] rfl hr2 (by omega) (Nat.zero_le _) ?_); intro v' w2 g3 g4 g5; obtain ⟨A2, c2, rfl, _, _, _⟩ := g3.form; have g6 := HH.out w2 g4; have g7 := g6.at 0; have g8 := g6.soft 0; have HE := Lib.hid (HK.out w2 _ g3 g4 g5); clear HK HH ho2 hr2 q0))
        go_roundw
        case rel => exact ⟨j + 1, by omega, by go_num, by omega, by rw [← HT.out]; exact HE.out⟩
        case measure => simp [intOf]; omega
    · obtain rfl : j = k := by omega
      have HE := Lib.hid (show RwTo p P (zs ++ rawL ys j) w wr by
        rw [List.take_of_length_le (by omega)] at h1 h4
        exact ⟨⟨h1, h2, v, h3, h4, h5⟩, ho⟩)
      clear h1 h2 h3 h4 h5 ho
      go_wp2_with (go_at_call 37; (with_reducible refine (HC.out _).mono ?_); rintro e w1 ⟨rfl, rfl⟩)
      go_end0
      exact ⟨rfl, HE.out⟩
end Go.Proofs.Ythkgbcchnneloaa
