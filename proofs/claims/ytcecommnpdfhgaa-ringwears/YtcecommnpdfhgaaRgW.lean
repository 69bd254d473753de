/-
  The calls of package ring that write: fill, Put; conditions: the area and its flash are there, the row does not lie in the flash.
-/
import Derived.Test.YtcecommnpdfhgaaRgM
namespace Go.Proofs.Ytcecommnpdfhgaa
open Go.RowKit
set_option linter.unusedVariables false
set_option linter.unusedSimpArgs false

theorem erase_len (S : Fs) (P : Pt) (s : Int) : (aErase S P s).2.wear.length = S.wear.length := (aErase_wears S P s).1
set_option maxRecDepth 100000 in
set_option maxHeartbeats 1000000 in
theorem fill_any {T x g m k : Nat} {S : Fs} {P : Pt} (s : Nat) (A : Option Addr) (n z : Nat) (zs : List Int) (w : World) (ha : Ar w x g P) (hx : ¬ In3 g m k x) (hf : Fl w T g m k S) (hfew : Few S) (hops : S.ops ≤ 999999) (hp : P.Ok S.wear.length)
    (hr : Row w A n zs) (hA : Clear g m k A n) :
    Calls Try.prog 23 #[.pointer (some ⟨x, 0, none⟩), .int .i64 (s : Int), .slice A n z] w fun e w' => e = .returned (.int .i64 (fillS S P s zs).1) ∧ FlTo T g m k (fillS S P s zs).2 w w' := by
  have HBl := Lib.hid (ablank_any (s : Int) w ha hf hp)
  have HA := Lib.hid ha
  have HF := Lib.hid hf
  have HP := Lib.hid hp
  have HR := Lib.hid hr
  have HC := Lib.hid hA
  have HX := Lib.hid hx
  clear ha hf hp hr hA hx
  by_cases hbl : aBlank S P (s : Int) = true
  · rw [hbl] at HBl
    rw [fill_blank hbl]
    clear hbl
    go_enter Try.func23, Try.ntmps23
    go_wp2_with (first
      | (go_at_call 31; (with_reducible refine HBl.out.mono ?_); rintro e w1 ⟨rfl, H1⟩; clear HBl; have HPr := Lib.hid (aprogram_any (s : Int) 0 A n z zs w1 (HA.out.kept H1) (HF.out.kept H1) HP.out ⟨by omega, by omega⟩ (row_below H1 HR.out) HC.out (by omega)))
      | (go_at_call 39; (with_reducible refine HPr.out.mono ?_); rintro e w2 ⟨rfl, H2⟩))
    go_ret
    exact ⟨rfl, H2.1, (Only.of_below H1).trans H2.2⟩
  · replace hbl : aBlank S P (s : Int) = false := by simpa using hbl
    rw [hbl] at HBl
    by_cases he : (aErase S P (s : Int)).1 = 0
    · rw [fill_two hbl he]
      clear hbl
      have HE0 := Lib.hid he
      clear he
      go_enter Try.func23, Try.ntmps23
      go_wp2_with (first
        | (go_at_call 31; (with_reducible refine HBl.out.mono ?_); rintro e w1 ⟨rfl, H1⟩; clear HBl; have HE := Lib.hid (aerase_any (s : Int) w1 (HA.out.kept H1) (HF.out.kept H1) hfew (by omega) HP.out); rw [HE0.out] at HE)
        | (go_at_call 38; (with_reducible refine HE.out.mono ?_); rintro e w2 ⟨rfl, H2⟩; clear HE; have HPr := Lib.hid (aprogram_any (s : Int) 0 A n z zs w2 ((HA.out.kept H1).only H2.2 HX.out) H2.1 (by rw [erase_len]; exact HP.out) ⟨by omega, by omega⟩ (row_clear (row_below H1 HR.out) H2.2 HC.out) HC.out (by have := (aErase_wears S P (s : Int)).2; omega)))
        | (go_at_call 39; (with_reducible refine HPr.out.mono ?_); rintro e w3 ⟨rfl, H3⟩))
      go_ret
      exact ⟨rfl, H3.1, ((Only.of_below H1).trans H2.2).trans H3.2⟩
    · rw [fill_err hbl he]
      clear hbl
      go_enter Try.func23, Try.ntmps23
      go_wp2_with (first
        | (go_at_call 31; (with_reducible refine HBl.out.mono ?_); rintro e w1 ⟨rfl, H1⟩; clear HBl; have HE := Lib.hid (aerase_any (s : Int) w1 (HA.out.kept H1) (HF.out.kept H1) hfew (by omega) HP.out))
        | (go_at_call 38; (with_reducible refine HE.out.mono ?_); rintro e w2 ⟨rfl, H2⟩; clear HE))
      go_ret
      exact ⟨rfl, H2.1, (Only.of_below H1).trans H2.2⟩
theorem Fl.lt {w : World} {T g m k : Nat} {S : Fs} (h : Fl w T g m k S) {b : Nat} (hb : In3 g m k b) : b < w.heap.size := by
  obtain ⟨_, _, _, _, _, a, _⟩ := h
  rcases hb with rfl | rfl | rfl
  · exact a.str.size
  · exact a.mem.size
  · exact a.wear.size
set_option maxRecDepth 100000 in
set_option maxHeartbeats 1000000 in
theorem put_ring {T x g m k : Nat} {S : Fs} {P : Pt} (A : Option Addr) (n z : Nat) (zs : List Int) (w : World) (ha : Ar w x g P) (hx : ¬ In3 g m k x) (hf : Fl w T g m k S) (hfew : Few S) (hops : S.ops ≤ 999999) (hp : P.Ok S.wear.length)
    (hr : Row w A n zs) :
    Calls Try.prog 10 #[.pointer (some ⟨x, 0, none⟩), .slice A n z] w fun e w' => e = .returned (.int .i64 (putR S P zs).1) ∧ FlTo T g m k (putR S P zs).2 w w' := by
  have HH := Lib.hid (has_any w ha)
  have HA := Lib.hid ha
  have HF := Lib.hid hf
  have HP := Lib.hid hp
  have HR := Lib.hid hr
  have HX := Lib.hid hx
  have hl := hr.1
  clear ha hf hp hr hx
  by_cases hc : 4 ≤ P.cnt
  · rw [show decide (4 ≤ P.cnt) = true by simpa using hc] at HH
    by_cases hn : 156 < n
    · rw [put_long hc (by omega)]
      have i1 : (156 : Int) < (n : Int) := by omega
      clear hc hl hn
      go_enter Try.func10, Try.ntmps10
      go_wp2_with (go_at_call 19; (with_reducible refine HH.out.mono ?_); rintro e w1 ⟨rfl, H1⟩; clear HH)
      go_ret
      exact ⟨rfl, HF.out.kept H1, Only.of_below H1⟩
    · have i1 : ¬ (156 : Int) < (n : Int) := by omega
      have hseq := hd_seq S P
      have hsec := hd_sec S P
      have HSec := Lib.hid hsec
      have q1 : IntKind.i64.wrap ((hdOf S P).seq + 1) = (hdOf S P).seq + 1 := by rw [IntKind.wrap_i64]; omega
      have HI := Lib.hid (show -9223372036854775808 ≤ (hdOf S P).seq + 1 ∧ (hdOf S P).seq + 1 ≤ 9223372036854775807 by omega)
      by_cases hm : MayP S P
      · rw [put_does hc (by omega) hm]
        have HM0 := Lib.hid (may_yes hm)
        have HErr := Lib.hid (err_none (len := n) hm.2 (by omega))
        have HOut := Lib.hid (out_some (zs := zs) (len := n) hm.2 (by omega))
        clear hc hm hl hn hseq hsec
        go_enter Try.func10, Try.ntmps10
        go_wp2_with (first
          | (go_at_call 19; (with_reducible refine HH.out.mono ?_); rintro e w1 ⟨rfl, H1⟩; clear HH; have HFi := Lib.hid (find_any w1 (HA.out.kept H1) (HF.out.kept H1) HP.out))
          | (go_at_call 20; (with_reducible refine HFi.out.mono ?_); rintro e w2 ⟨v2, rfl, o2, H2⟩; clear HFi; obtain ⟨A2, z2, rfl, _, _, _⟩ := o2.form; clear o2; have b2 := Lib.hid ((belowThen H1 H2).alloc (belowThen H1 H2).size (.cells (hcells (hdOf S P) (.slice A2 (hdOf S P).load.length z2)) 59)); have HX2 := Lib.hid (has_new w2 59 (hcells (hdOf S P) (.slice A2 (hdOf S P).load.length z2))); have HM := Lib.hid (may_any A2 (hdOf S P).load.length z2 _ (HA.out.kept b2.out) (HF.out.kept b2.out) hfew (by omega) HP.out); rw [HM0.out] at HM; unfold hcells at HM ⊢)
          | (go_at_call 21; (with_reducible refine HM.out.mono ?_); rintro e w3 ⟨rfl, H3⟩; clear HM; have b3 := Lib.hid (belowThen b2.out H3); have HX3 := Lib.hid (HX2.out.kept H3); have e1 : w3.cell? ⟨w2.heap.size, 1, none⟩ = some (.int .i64 (hdOf S P).seq) := HX3.out.at 1; have HPt := Lib.hid (cput_any ((hdOf S P).seq + 1) A n z zs w3 HI.out (row_below b3.out HR.out)); rw [HErr.out, HOut.out] at HPt)
          | (go_at_call 22; (with_reducible refine HPt.out.mono ?_); rintro e w4 ⟨v4, rfl, o4, H4⟩; clear HPt e1; rw [cell_len] at o4; obtain ⟨A4, z4, rfl, _, r4, k4⟩ := o4.form; clear o4; have b4 := Lib.hid (belowThen b3.out H4); have HX4 := Lib.hid (HX3.out.kept H4); have c0 : w4.cell? ⟨w2.heap.size, 0, none⟩ = some (.int .i64 ((hdOf S P).sec : Int)) := HX4.out.at 0; have c1 : w4.cell? ⟨w2.heap.size, 1, none⟩ = some (.int .i64 (hdOf S P).seq) := HX4.out.at 1; have c2 : w4.cell? ⟨w2.heap.size, 2, none⟩ = some (.slice A2 (hdOf S P).load.length z2) := HX4.out.at 2; have HN : Hid (Calls Try.prog 24 #[.agg #[.int .i64 ((hdOf S P).sec : Int), .int .i64 (hdOf S P).seq, .slice A2 (hdOf S P).load.length z2]] w4 _) := Lib.hid (next_any (hdOf S P) A2 (hdOf S P).load.length z2 w4 HSec.out); have HR4 := Lib.hid r4; have HK4 := Lib.hid k4; clear r4 k4)
          | (go_at_call 24; (with_reducible refine HN.out.mono ?_); rintro e w5 ⟨rfl, H5⟩; clear HN c0 c1 c2; have b5 := Lib.hid (belowThen b4.out H5); have HFl := Lib.hid (fill_any (hdOf S P).next A4 320 z4 (cellL ((hdOf S P).seq + 1) zs) w5 (HA.out.kept b5.out) HX.out (HF.out.kept b5.out) hfew hops HP.out (row_below H5 HR4.out) (.inr (fun y hy hin => by have h1 := (HK4.out y hy).1; have h2 := (HF.out.kept b3.out).lt hin; omega))))
          | (go_at_call 23; (with_reducible refine HFl.out.mono ?_); rintro e w6 ⟨rfl, H6⟩))
        go_ret
        exact ⟨rfl, H6.1, (Only.of_below b5.out).trans H6.2⟩
      · rw [put_worn hc (by omega) hm]
        have HM0 := Lib.hid (may_no hm)
        clear hc hm hl hn hseq hsec
        go_enter Try.func10, Try.ntmps10
        go_wp2_with (first
          | (go_at_call 19; (with_reducible refine HH.out.mono ?_); rintro e w1 ⟨rfl, H1⟩; clear HH; have HFi := Lib.hid (find_any w1 (HA.out.kept H1) (HF.out.kept H1) HP.out))
          | (go_at_call 20; (with_reducible refine HFi.out.mono ?_); rintro e w2 ⟨v2, rfl, o2, H2⟩; clear HFi; obtain ⟨A2, z2, rfl, _, _, _⟩ := o2.form; clear o2; have b2 := Lib.hid ((belowThen H1 H2).alloc (belowThen H1 H2).size (.cells (hcells (hdOf S P) (.slice A2 (hdOf S P).load.length z2)) 59)); have HM := Lib.hid (may_any A2 (hdOf S P).load.length z2 _ (HA.out.kept b2.out) (HF.out.kept b2.out) hfew (by omega) HP.out); rw [HM0.out] at HM; unfold hcells at HM ⊢)
          | (go_at_call 21; (with_reducible refine HM.out.mono ?_); rintro e w3 ⟨rfl, H3⟩; clear HM; have b3 := Lib.hid (belowThen b2.out H3)))
        go_ret
        exact ⟨rfl, HF.out.kept b3.out, Only.of_below b3.out⟩
  · rw [show decide (4 ≤ P.cnt) = false by simpa using hc] at HH
    rw [put_few hc]
    clear hc hl
    go_enter Try.func10, Try.ntmps10
    go_wp2_with (go_at_call 19; (with_reducible refine HH.out.mono ?_); rintro e w1 ⟨rfl, H1⟩; clear HH)
    go_ret
    exact ⟨rfl, HF.out.kept H1, Only.of_below H1⟩
end Go.Proofs.Ytcecommnpdfhgaa
