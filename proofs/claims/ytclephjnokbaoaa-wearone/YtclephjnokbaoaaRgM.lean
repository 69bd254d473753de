/-
  The calls of package ring that tell: next, may, Last, Next, May; conditions: the area and its flash are there.
-/
import Derived.Test.YtclephjnokbaoaaRgF
import Derived.BigQuiet
namespace Go.Proofs.Ytclephjnokbaoaa
open Go.RowKit
set_option linter.unusedVariables false
set_option linter.unusedSimpArgs false

theorem next_any (h : Hd) (A : Option Addr) (n z : Nat) (w : World) (hs : h.sec ≤ 3) : Calls Try.prog 61 #[.agg (hcells h (.slice A n z))] w fun e w' => e = .returned (.int .i64 (h.next : Int)) ∧ Below w.heap.size w w' := by
  have b0 : Below w.heap.size w (w.alloc (.cells (hcells h (.slice A n z)) 80)) := (Below.refl _ w).alloc (Nat.le_refl _) _
  unfold Hd.next
  unfold hcells at *
  obtain h0 | h0 | h0 | h0 : h.sec = 0 ∨ h.sec = 1 ∨ h.sec = 2 ∨ h.sec = 3 := by omega
  all_goals
    rw [h0] at b0 ⊢
    clear hs h0
    go_enter Try.func61, Try.ntmps61
    go_wp2
    go_ret
    exact ⟨rfl, b0⟩
theorem may_yes {S : Fs} {P : Pt} (h : MayP S P) : mayB S P = true := by unfold mayB; exact @decide_eq_true _ (Classical.propDecidable _) h
theorem may_no {S : Fs} {P : Pt} (h : ¬ MayP S P) : mayB S P = false := by unfold mayB; exact @decide_eq_false _ (Classical.propDecidable _) h
set_option maxRecDepth 100000 in
set_option maxHeartbeats 1000000 in
theorem may_any {T x g m k : Nat} {S : Fs} {P : Pt} (A : Option Addr) (n z : Nat) (w : World) (ha : Ar w x g P) (hf : Fl w T g m k S) (hfew : Few S) (hops : S.ops ≤ 1000000) (hp : P.Ok S.wear.length) :
    Calls Try.prog 50 #[.agg (hcells (hdOf S P) (.slice A n z)), .pointer (some ⟨x, 0, none⟩)] w fun e w' => e = .returned (.bool (mayB S P)) ∧ Below w.heap.size w w' := by
  have hsec := hd_sec S P
  have hseq := hd_seq S P
  have b0 : Below w.heap.size w (w.alloc (.cells (hcells (hdOf S P) (.slice A n z)) 80)) := (Below.refl _ w).alloc (Nat.le_refl _) _
  have HX0 := Lib.hid (has_new w 80 (hcells (hdOf S P) (.slice A n z)))
  have HN1 := Lib.hid (next_any (hdOf S P) A n z (w.alloc (.cells (hcells (hdOf S P) (.slice A n z)) 80)) hsec)
  have HB0 := Lib.hid b0
  have HA := Lib.hid ha
  have HF := Lib.hid hf
  have HP := Lib.hid hp
  have q1 : IntKind.i64.wrap ((hdOf S P).seq + 1) = (hdOf S P).seq + 1 := by rw [IntKind.wrap_i64]; omega
  have hi : -9223372036854775808 ≤ (hdOf S P).seq + 1 ∧ (hdOf S P).seq + 1 ≤ 9223372036854775807 := by omega
  have HI := Lib.hid hi
  have HSec := Lib.hid hsec
  clear ha hf hp b0 hsec hi hseq
  by_cases hbl : aBlank S P ((hdOf S P).next : Int) = true
  · by_cases hs : Seq ((hdOf S P).seq + 1)
    · rw [may_yes ⟨.inl hbl, hs⟩]
      have herr : errN ((hdOf S P).seq + 1) 0 = 0 := err_none hs (by omega)
      clear hs
      go_enter Try.func50, Try.ntmps50
      go_wp2_with (first
        | (refine wpList_load_row rfl 80 _ rfl w.heap.size rfl 80 _ (0, 0) _ HX0.out Try.underlying80 rfl (size59 _ _) ?_)
        | (go_at_call 61; (with_reducible refine HN1.out.mono ?_); rintro e w1 ⟨rfl, H1⟩; have b1 := Lib.hid (HB0.out.trans (H1.mono HB0.out.size)); have HX1 := Lib.hid (HX0.out.kept H1); have HBl := Lib.hid (ablank_any ((hdOf S P).next : Int) w1 (HA.out.kept b1.out) (HF.out.kept b1.out) HP.out); rw [hbl] at HBl; clear HN1 H1 HX0)
        | (go_at_call 60; (with_reducible refine HBl.out.mono ?_); rintro e w2 ⟨rfl, H2⟩; have b2 := Lib.hid (belowThen b1.out H2); have HX2 := Lib.hid (HX1.out.kept H2); have e1 : w2.cell? ⟨w.heap.size, 1, none⟩ = some (.int .i64 (hdOf S P).seq) := HX2.out.at 1; have HPt := Lib.hid (cput_any ((hdOf S P).seq + 1) none 0 0 [] w2 HI.out (row_nil _)); rw [herr] at HPt; clear HBl H2)
        | (go_at_call 62; (with_reducible refine HPt.out.mono ?_); rintro e w5 ⟨v5, rfl, o5, H5⟩; clear HPt; obtain ⟨A5, z5, rfl, _, _, _⟩ := o5.form; clear o5))
      go_ret
      exact ⟨rfl, belowThen b2.out H5⟩
    · rw [may_no (fun h => hs h.2)]
      have herr : errN ((hdOf S P).seq + 1) 0 = 1 := err_arg hs
      clear hs
      go_enter Try.func50, Try.ntmps50
      go_wp2_with (first
        | (refine wpList_load_row rfl 80 _ rfl w.heap.size rfl 80 _ (0, 0) _ HX0.out Try.underlying80 rfl (size59 _ _) ?_)
        | (go_at_call 61; (with_reducible refine HN1.out.mono ?_); rintro e w1 ⟨rfl, H1⟩; have b1 := Lib.hid (HB0.out.trans (H1.mono HB0.out.size)); have HX1 := Lib.hid (HX0.out.kept H1); have HBl := Lib.hid (ablank_any ((hdOf S P).next : Int) w1 (HA.out.kept b1.out) (HF.out.kept b1.out) HP.out); rw [hbl] at HBl; clear HN1 H1 HX0)
        | (go_at_call 60; (with_reducible refine HBl.out.mono ?_); rintro e w2 ⟨rfl, H2⟩; have b2 := Lib.hid (belowThen b1.out H2); have HX2 := Lib.hid (HX1.out.kept H2); have e1 : w2.cell? ⟨w.heap.size, 1, none⟩ = some (.int .i64 (hdOf S P).seq) := HX2.out.at 1; have HPt := Lib.hid (cput_any ((hdOf S P).seq + 1) none 0 0 [] w2 HI.out (row_nil _)); rw [herr] at HPt; clear HBl H2)
        | (go_at_call 62; (with_reducible refine HPt.out.mono ?_); rintro e w5 ⟨v5, rfl, o5, H5⟩; clear HPt; obtain ⟨A5, z5, rfl, _, _, _⟩ := o5.form; clear o5))
      go_ret
      exact ⟨rfl, belowThen b2.out H5⟩
  · replace hbl : aBlank S P ((hdOf S P).next : Int) = false := by simpa using hbl
    by_cases hl : aLeft S P ((hdOf S P).next : Int) = 0
    · rw [may_no (fun h => h.1.elim (fun h => by rw [hbl] at h; cases h) (fun h => h hl))]
      go_enter Try.func50, Try.ntmps50
      go_wp2_with (first
        | (refine wpList_load_row rfl 80 _ rfl w.heap.size rfl 80 _ (0, 0) _ HX0.out Try.underlying80 rfl (size59 _ _) ?_)
        | (go_at_call 61; (with_reducible refine HN1.out.mono ?_); rintro e w1 ⟨rfl, H1⟩; have b1 := Lib.hid (HB0.out.trans (H1.mono HB0.out.size)); have HX1 := Lib.hid (HX0.out.kept H1); have HBl := Lib.hid (ablank_any ((hdOf S P).next : Int) w1 (HA.out.kept b1.out) (HF.out.kept b1.out) HP.out); rw [hbl] at HBl; clear HN1 H1 HX0)
        | (go_at_call 60; (with_reducible refine HBl.out.mono ?_); rintro e w2 ⟨rfl, H2⟩; have b2 := Lib.hid (belowThen b1.out H2); have HX2 := Lib.hid (HX1.out.kept H2); have c0 : w2.cell? ⟨w.heap.size, 0, none⟩ = some (.int .i64 ((hdOf S P).sec : Int)) := HX2.out.at 0; have c1 : w2.cell? ⟨w.heap.size, 1, none⟩ = some (.int .i64 (hdOf S P).seq) := HX2.out.at 1; have c2 : w2.cell? ⟨w.heap.size, 2, none⟩ = some (.slice A n z) := HX2.out.at 2; have HN2 : Hid (Calls Try.prog 61 #[.agg #[.int .i64 ((hdOf S P).sec : Int), .int .i64 (hdOf S P).seq, .slice A n z]] w2 _) := Lib.hid (next_any (hdOf S P) A n z w2 HSec.out); clear HBl H2 HX1)
        | (go_at_call 61; (with_reducible refine HN2.out.mono ?_); rintro e w3 ⟨rfl, H3⟩; have b3 := Lib.hid (belowThen b2.out H3); have HX3 := Lib.hid (HX2.out.kept H3); have HLf := Lib.hid (left_any ((hdOf S P).next : Int) w3 (HA.out.kept b3.out) (HF.out.kept b3.out) hfew hops HP.out); clear HN2 H3 c0 c1 c2)
        | (go_at_call 33; (with_reducible refine HLf.out.mono ?_); rintro e w4 ⟨rfl, H4⟩; have b4 := Lib.hid (belowThen b3.out H4); clear HLf H4))
      go_ret
      exact ⟨rfl, b4.out⟩
    · by_cases hs : Seq ((hdOf S P).seq + 1)
      · rw [may_yes ⟨.inr hl, hs⟩]
        have herr : errN ((hdOf S P).seq + 1) 0 = 0 := err_none hs (by omega)
        clear hs
        go_enter Try.func50, Try.ntmps50
        go_wp2_with (first
          | (refine wpList_load_row rfl 80 _ rfl w.heap.size rfl 80 _ (0, 0) _ HX0.out Try.underlying80 rfl (size59 _ _) ?_)
          | (go_at_call 61; (with_reducible refine HN1.out.mono ?_); rintro e w1 ⟨rfl, H1⟩; have b1 := Lib.hid (HB0.out.trans (H1.mono HB0.out.size)); have HX1 := Lib.hid (HX0.out.kept H1); have HBl := Lib.hid (ablank_any ((hdOf S P).next : Int) w1 (HA.out.kept b1.out) (HF.out.kept b1.out) HP.out); rw [hbl] at HBl; clear HN1 H1 HX0)
          | (go_at_call 60; (with_reducible refine HBl.out.mono ?_); rintro e w2 ⟨rfl, H2⟩; have b2 := Lib.hid (belowThen b1.out H2); have HX2 := Lib.hid (HX1.out.kept H2); have c0 : w2.cell? ⟨w.heap.size, 0, none⟩ = some (.int .i64 ((hdOf S P).sec : Int)) := HX2.out.at 0; have c1 : w2.cell? ⟨w.heap.size, 1, none⟩ = some (.int .i64 (hdOf S P).seq) := HX2.out.at 1; have c2 : w2.cell? ⟨w.heap.size, 2, none⟩ = some (.slice A n z) := HX2.out.at 2; have HN2 : Hid (Calls Try.prog 61 #[.agg #[.int .i64 ((hdOf S P).sec : Int), .int .i64 (hdOf S P).seq, .slice A n z]] w2 _) := Lib.hid (next_any (hdOf S P) A n z w2 HSec.out); clear HBl H2 HX1)
          | (go_at_call 61; (with_reducible refine HN2.out.mono ?_); rintro e w3 ⟨rfl, H3⟩; have b3 := Lib.hid (belowThen b2.out H3); have HX3 := Lib.hid (HX2.out.kept H3); have HLf := Lib.hid (left_any ((hdOf S P).next : Int) w3 (HA.out.kept b3.out) (HF.out.kept b3.out) hfew hops HP.out); clear HN2 H3 c0 c1 c2)
          | (go_at_call 33; (with_reducible refine HLf.out.mono ?_); rintro e w4 ⟨rfl, H4⟩; have b4 := Lib.hid (belowThen b3.out H4); have HX4 := Lib.hid (HX3.out.kept H4); have e1 : w4.cell? ⟨w.heap.size, 1, none⟩ = some (.int .i64 (hdOf S P).seq) := HX4.out.at 1; have HPt := Lib.hid (cput_any ((hdOf S P).seq + 1) none 0 0 [] w4 HI.out (row_nil _)); rw [herr] at HPt; clear HLf H4)
          | (go_at_call 62; (with_reducible refine HPt.out.mono ?_); rintro e w5 ⟨v5, rfl, o5, H5⟩; clear HPt; obtain ⟨A5, z5, rfl, _, _, _⟩ := o5.form; clear o5))
        go_ret
        exact ⟨rfl, belowThen b4.out H5⟩
      · rw [may_no (fun h => hs h.2)]
        have herr : errN ((hdOf S P).seq + 1) 0 = 1 := err_arg hs
        clear hs
        go_enter Try.func50, Try.ntmps50
        go_wp2_with (first
          | (refine wpList_load_row rfl 80 _ rfl w.heap.size rfl 80 _ (0, 0) _ HX0.out Try.underlying80 rfl (size59 _ _) ?_)
          | (go_at_call 61; (with_reducible refine HN1.out.mono ?_); rintro e w1 ⟨rfl, H1⟩; have b1 := Lib.hid (HB0.out.trans (H1.mono HB0.out.size)); have HX1 := Lib.hid (HX0.out.kept H1); have HBl := Lib.hid (ablank_any ((hdOf S P).next : Int) w1 (HA.out.kept b1.out) (HF.out.kept b1.out) HP.out); rw [hbl] at HBl; clear HN1 H1 HX0)
          | (go_at_call 60; (with_reducible refine HBl.out.mono ?_); rintro e w2 ⟨rfl, H2⟩; have b2 := Lib.hid (belowThen b1.out H2); have HX2 := Lib.hid (HX1.out.kept H2); have c0 : w2.cell? ⟨w.heap.size, 0, none⟩ = some (.int .i64 ((hdOf S P).sec : Int)) := HX2.out.at 0; have c1 : w2.cell? ⟨w.heap.size, 1, none⟩ = some (.int .i64 (hdOf S P).seq) := HX2.out.at 1; have c2 : w2.cell? ⟨w.heap.size, 2, none⟩ = some (.slice A n z) := HX2.out.at 2; have HN2 : Hid (Calls Try.prog 61 #[.agg #[.int .i64 ((hdOf S P).sec : Int), .int .i64 (hdOf S P).seq, .slice A n z]] w2 _) := Lib.hid (next_any (hdOf S P) A n z w2 HSec.out); clear HBl H2 HX1)
          | (go_at_call 61; (with_reducible refine HN2.out.mono ?_); rintro e w3 ⟨rfl, H3⟩; have b3 := Lib.hid (belowThen b2.out H3); have HX3 := Lib.hid (HX2.out.kept H3); have HLf := Lib.hid (left_any ((hdOf S P).next : Int) w3 (HA.out.kept b3.out) (HF.out.kept b3.out) hfew hops HP.out); clear HN2 H3 c0 c1 c2)
          | (go_at_call 33; (with_reducible refine HLf.out.mono ?_); rintro e w4 ⟨rfl, H4⟩; have b4 := Lib.hid (belowThen b3.out H4); have HX4 := Lib.hid (HX3.out.kept H4); have e1 : w4.cell? ⟨w.heap.size, 1, none⟩ = some (.int .i64 (hdOf S P).seq) := HX4.out.at 1; have HPt := Lib.hid (cput_any ((hdOf S P).seq + 1) none 0 0 [] w4 HI.out (row_nil _)); rw [herr] at HPt; clear HLf H4)
          | (go_at_call 62; (with_reducible refine HPt.out.mono ?_); rintro e w5 ⟨v5, rfl, o5, H5⟩; clear HPt; obtain ⟨A5, z5, rfl, _, _, _⟩ := o5.form; clear o5))
        go_ret
        exact ⟨rfl, belowThen b4.out H5⟩
/-- What Last tells. -/
def Lasts (h : Hd) (w : World) (e : Ending) (w' : World) : Prop := ∃ v, e = .returned (.tuple #[.int .i64 h.seq, v, .bool (decide (0 < h.seq))]) ∧ Own w' w.heap.size v h.load.length h.load ∧ Below w.heap.size w w'
theorem mayR_yes {S : Fs} {P : Pt} (h : 4 ≤ P.cnt) : mayR S P = mayB S P := by
  unfold mayR mayB
  rw [decide_eq_decide]
  exact ⟨fun k => k.2, fun k => ⟨h, k⟩⟩
theorem mayR_no {S : Fs} {P : Pt} (h : ¬ 4 ≤ P.cnt) : mayR S P = false := by unfold mayR; exact @decide_eq_false _ (Classical.propDecidable _) fun k => h k.1
set_option maxRecDepth 100000 in
theorem mays_any {T x g m k : Nat} {S : Fs} {P : Pt} (w : World) (ha : Ar w x g P) (hf : Fl w T g m k S) (hfew : Few S) (hops : S.ops ≤ 1000000) (hp : P.Ok S.wear.length) :
    Calls Try.prog 36 #[.pointer (some ⟨x, 0, none⟩)] w fun e w' => e = .returned (.bool (mayR S P)) ∧ Below w.heap.size w w' := by
  have HH := Lib.hid (has_any w ha)
  have HA := Lib.hid ha
  have HF := Lib.hid hf
  have HP := Lib.hid hp
  clear ha hf hp
  by_cases hc : 4 ≤ P.cnt
  · rw [mayR_yes hc]
    rw [show decide (4 ≤ P.cnt) = true by simpa using hc] at HH
    clear hc
    go_enter Try.func36, Try.ntmps36
    go_wp2_with (first
      | (go_at_call 48; (with_reducible refine HH.out.mono ?_); rintro e w1 ⟨rfl, H1⟩; clear HH; have HFi := Lib.hid (find_any w1 (HA.out.kept H1) (HF.out.kept H1) HP.out))
      | (go_at_call 49; (with_reducible refine HFi.out.mono ?_); rintro e w2 ⟨v2, rfl, o2, H2⟩; clear HFi; obtain ⟨A2, z2, rfl, _, _, _⟩ := o2.form; clear o2; have b2 := Lib.hid (belowThen H1 H2); have HM := Lib.hid (may_any A2 (hdOf S P).load.length z2 w2 (HA.out.kept b2.out) (HF.out.kept b2.out) hfew hops HP.out))
      | (go_at_call 50; (with_reducible refine HM.out.mono ?_); rintro e w3 ⟨rfl, H3⟩))
    go_ret
    exact ⟨rfl, belowThen b2.out H3⟩
  · rw [mayR_no hc]
    rw [show decide (4 ≤ P.cnt) = false by simpa using hc] at HH
    clear hc
    go_enter Try.func36, Try.ntmps36
    go_wp2_with (go_at_call 48; (with_reducible refine HH.out.mono ?_); rintro e w1 ⟨rfl, H1⟩; clear HH)
    go_ret
    exact ⟨rfl, H1⟩
end Go.Proofs.Ytclephjnokbaoaa
