/-
  Several texts in one: RgF, RgM, RgS, RgD, RgW, RgR, RgN, RgA, RgE; each says its own conditions.
-/
import Derived.Test.YtcecommnpdfhgaaGreatDoorRgP
import Derived.Test.YtcecommnpdfhgaaGreatDoorMAb
import Derived.Test.YtcecommnpdfhgaaGreatDoorMCe
import Derived.Handy
import Derived.Laws.Tables
import Derived.BigQuiet
import Derived.Test.YtcecommnpdfhgaaGreatDoorOps
import Derived.Test.YtcecommnpdfhgaaGreatDoorRna
namespace Go.Proofs.YtcecommnpdfhgaaGreatDoor
open Go.RowKit
set_option linter.unusedVariables false
set_option linter.unusedSimpArgs false

theorem has_any {x g : Nat} {P : Pt} (w : World) (ha : Ar w x g P) : Calls Tryz.prog 32 #[.pointer (some ⟨x, 0, none⟩)] w fun e w' => e = .returned (.bool (decide (4 ≤ P.cnt))) ∧ Below w.heap.size w w' := by
  have HL := Lib.hid (alen_any w ha)
  have hd : decide (4 ≤ P.cnt) = decide ((4 : Int) ≤ (P.cnt : Int)) := by rw [decide_eq_decide]; omega
  rw [hd]
  clear ha
  go_enter Tryz.func32, Tryz.ntmps32
  go_wp2_with (go_at_call 65; (with_reducible refine HL.out.mono ?_); rintro e w1 ⟨rfl, H1⟩)
  go_ret
  exact ⟨rfl, H1⟩
def hcells (h : Hd) (v : Value) : Array Value := #[.int .i64 (h.sec : Int), .int .i64 h.seq, v]
/-- What find answers. -/
def Finds (h : Hd) (w : World) (e : Ending) (w' : World) : Prop := ∃ v, e = .returned (.agg (hcells h v)) ∧ Own w' w.heap.size v h.load.length h.load ∧ Below w.heap.size w w'
theorem size59 (h : Hd) (v : Value) : (Tryz.prog.info? 77).map (·.size) = some (hcells h v).size := by
  show _ = some 3
  kernel_rfl
/-- So many sectors are looked at. -/
def Looks (S : Fs) (P : Pt) (w : World) (R H : Nat) (i : Value) (wr : World) : Prop :=
  ∃ (k : Nat) (v : Value), i = .int .i64 (k : Int) ∧ k ≤ 4 ∧ Has wr R 77 #[.int .i64 0, .int .i64 0, .slice none 0 0] ∧ Has wr H 77 (hcells (look S P k) v) ∧ Own wr (w.heap.size + 2) v (look S P k).load.length (look S P k).load ∧ Below w.heap.size w wr
theorem sec_in {P : Pt} (h : 4 ≤ P.cnt) {k : Nat} (hk : k < 4) : P.in (k : Int) 0 320 := ⟨⟨by omega, by omega⟩, by omega, by omega, by omega⟩
theorem sec_len {S : Fs} {P : Pt} (hS : S.Ok) (hp : P.Ok S.wear.length) (h : 4 ≤ P.cnt) {k : Nat} (hk : k < 4) : (secL S P k).length = 320 := by
  unfold secL aRead
  rw [if_pos (sec_in h hk)]
  have h1 := hp.in'
  have h2 := hS.len
  have e : P.place (k : Int) 0 = (((P.fst + k) * 320 : Nat) : Int) := by unfold Pt.place; omega
  rw [e, show (320 : Int) = ((320 : Nat) : Int) from rfl, read_yes (by omega) (by omega)]
  rw [List.length_take, List.length_drop]
  omega
theorem size59' : (Tryz.prog.info? 77).map (·.size) = some 3 := by kernel_rfl
theorem all3 (a b : Int) (A : Option Addr) (n z : Nat) : (#[.int .i64 a, .int .i64 b, .slice A n z] : Array Value).all (·.oneCell') = true := by simp [Value.oneCell']
theorem own_by {w w' : World} {base : Nat} {v : Value} {n : Nat} {zs : List Int} (h : Own w base v n zs) (hk : ∀ g, base ≤ g → g < w.heap.size → w'.heap[g]? = w.heap[g]?) : Own w' base v n zs := by
  obtain ⟨⟨h1, h2⟩, h3⟩ := h
  refine ⟨⟨h1, ?_⟩, h3⟩
  rcases h2 with h2 | ⟨g, cap, cur, e1, e2, e3, e4⟩
  · exact .inl h2
  · exact .inr ⟨g, cap, cur, e1, e2, (hk g e2 (Array.getElem?_eq_some_iff.1 e3).1).trans e3, e4⟩
set_option maxRecDepth 100000 in
set_option maxHeartbeats 1000000 in
theorem find_any {T x g m k : Nat} {S : Fs} {P : Pt} (w : World) (ha : Ar w x g P) (hf : Fl w T g m k S) (hp : P.Ok S.wear.length) :
    Calls Tryz.prog 33 #[.pointer (some ⟨x, 0, none⟩)] w (Finds (hdOf S P) w) := by
  by_cases hc : 4 ≤ P.cnt
  · rw [hd_yes hc]
    have hd : decide (4 ≤ P.cnt) = true := by simpa using hc
    have b0 : Below w.heap.size w ((w.alloc (.cells #[.int .i64 0, .int .i64 0, .slice none 0 0] 77)).alloc (.cells #[.int .i64 3, .int .i64 0, .slice none 0 0] 77)) := ((Below.refl _ w).alloc (Nat.le_refl _) _).alloc (by simp) _
    have HH := Lib.hid (has_any _ (ha.kept b0))
    rw [hd] at HH
    have HA := Lib.hid ha
    have HF := Lib.hid hf
    have HC := Lib.hid hc
    have HP := Lib.hid hp
    clear ha hf hd hc hp
    go_enter Tryz.func33, Tryz.ntmps33
    go_wp2_with (go_at_call 32; (with_reducible refine HH.out.mono ?_); rintro e w1 ⟨rfl, H1⟩; have b1 := Lib.hid (b0.trans (H1.mono b0.size)); clear HH)
    have HS := Lib.hid (show Looks S P w w.heap.size (w.heap.size + 1) (.int .i64 0) w1 from by
      have k0 : Has ((w.alloc (.cells #[.int .i64 0, .int .i64 0, .slice none 0 0] 77)).alloc (.cells #[.int .i64 3, .int .i64 0, .slice none 0 0] 77)) w.heap.size 77 #[.int .i64 0, .int .i64 0, .slice none 0 0] := (has_new w 77 _).more _
      have k1 : Has ((w.alloc (.cells #[.int .i64 0, .int .i64 0, .slice none 0 0] 77)).alloc (.cells #[.int .i64 3, .int .i64 0, .slice none 0 0] 77)) (w.heap.size + 1) 77 #[.int .i64 3, .int .i64 0, .slice none 0 0] := by
        have := has_new (w.alloc (.cells #[.int .i64 0, .int .i64 0, .slice none 0 0] 77)) 77 #[.int .i64 3, .int .i64 0, .slice none 0 0]
        simpa using this
      exact ⟨0, .slice none 0 0, rfl, by omega, k0.kept H1, k1.kept H1, own_nil _ _, b1.out⟩)
    clear b0 H1 b1
    go_loopw [13] (Looks S P w w.heap.size (w.heap.size + 1)) (fun i _ => 4 - (intOf i).toNat)
    case atStart => exact HS.out
    case round =>
      clear HS
      obtain ⟨q, v, rfl, hq, hR, hH, hO, hB⟩ := hrel
      have HO := Lib.hid hO
      have HB := Lib.hid hB
      have HR := Lib.hid hR
      have HHd := Lib.hid hH
      unfold hcells at hH
      by_cases hlt : q < 4
      · have i1 : (q : Int) < 4 := by omega
        have q1 : IntKind.i64.wrap ((q : Int) + 1) = (q : Int) + 1 := by rw [IntKind.wrap_i64]; omega
        have HRd := Lib.hid (aread_any (q : Int) 0 320 _ (HA.out.kept HB.out) (HF.out.kept HB.out) HP.out ⟨by omega, by omega⟩ ⟨by omega, by omega⟩)
        have HLn := Lib.hid (sec_len HF.out.ok HP.out HC.out hlt)
        clear hO hB hR hH
        by_cases hg : Good (secL S P q)
        · have HG := Lib.hid hg
          by_cases hn : (look S P q).seq < seqN (secL S P q)
          · have HN := Lib.hid (look_yes (S := S) (P := P) (k := q) ⟨hg, hn⟩)
            have HD := Lib.hid hn
            replace hn : (look S P q).seq < seqN (aRead S P (q : Int) 0 320) := hn
            clear hg
            go_wp2_with (first
              | (go_at_call 67; (with_reducible refine HRd.out.mono ?_); rintro e w2 ⟨A2, c2, rfl, _, r2, _, H2⟩; have HLn2 : (aRead S P (q : Int) 0 320).length = 320 := HLn.out; rw [HLn2] at r2 ⊢; have HGt := Lib.hid (cget_any A2 320 c2 _ w2 r2); clear HRd r2 HLn2)
              | (go_at_call 66; (with_reducible refine HGt.out.mono ?_); rintro e w3 ⟨n3, v3, rs, b, rfl, hcl, o3, H3⟩; clear HGt; obtain ⟨rfl, rfl, rfl⟩ := hcl.some HG.out; have b3 := Lib.hid (belowThen H2 H3); have HBS := Lib.hid (Nat.lt_of_lt_of_le HHd.out.size H2.size); have hH3 := HHd.out.kept b3.out; have HH3 := Lib.hid hH3; have c0 := hH3.at 0; have c1 := hH3.at 1; have c2 := hH3.at 2; have f0 := hH3.soft 0; have f1 := hH3.soft 1; have f2 := hH3.soft 2; have d1 : w3.cell? ⟨w.heap.size + 1, 1, none⟩ = some (.int .i64 (look S P q).seq) := c1; clear c1 hcl hH3 H2 H3; obtain ⟨A3, z3, rfl, hz3, r3, _⟩ := o3.form)
              | (refine wpList_store_row rfl 77 _ _ rfl (w.heap.size + 1) #[.int .i64 (q : Int), .int .i64 (seqN (aRead S P (q : Int) 0 320)), .slice A3 (loadL (aRead S P (q : Int) 0 320)).length z3] rfl rfl 77 _ HH3.out size59' rfl (all3 _ _ _ _ _) ?_))
            go_roundw
            case rel =>
              have hlt1 := HHd.out.size
              have hle3 := b3.out.size
              have hn1 := setRow_heap w3 (w.heap.size + 1) _ #[.int .i64 (q : Int), .int .i64 (seqN (aRead S P (q : Int) 0 320)), .slice A3 (loadL (aRead S P (q : Int) 0 320)).length z3] 77 (0, 0) HH3.out
              refine ⟨q + 1, .slice A3 (loadL (aRead S P (q : Int) 0 320)).length z3, by simp, by omega, ?_, by rw [HN.out]; exact hn1, ?_, ?_⟩
              · exact (setRow_other w3 (w.heap.size + 1) w.heap.size _ (by omega)).trans (HR.out.kept b3.out)
              · rw [HN.out]
                exact (own_by o3 (fun i hi _ => setRow_other w3 (w.heap.size + 1) i _ (by have := HBS.out; omega))).lower (by have := HBS.out; omega)
              · exact below_setRow (belowThen HB.out b3.out) (by omega) _
            case measure => simp only [intOf]; omega
          · have HN := Lib.hid (look_no (S := S) (P := P) (k := q) (fun h => hn h.2))
            replace hn : ¬ (look S P q).seq < seqN (aRead S P (q : Int) 0 320) := hn
            clear hg
            go_wp2_with (first
              | (go_at_call 67; (with_reducible refine HRd.out.mono ?_); rintro e w2 ⟨A2, c2, rfl, _, r2, _, H2⟩; have HLn2 : (aRead S P (q : Int) 0 320).length = 320 := HLn.out; rw [HLn2] at r2 ⊢; have HGt := Lib.hid (cget_any A2 320 c2 _ w2 r2); clear HRd r2 HLn2)
              | (go_at_call 66; (with_reducible refine HGt.out.mono ?_); rintro e w3 ⟨n3, v3, rs, b, rfl, hcl, o3, H3⟩; clear HGt; obtain ⟨rfl, rfl, rfl⟩ := hcl.some HG.out; have b3 := Lib.hid (belowThen H2 H3); have HBS := Lib.hid (Nat.lt_of_lt_of_le HHd.out.size H2.size); have hH3 := HHd.out.kept b3.out; have HH3 := Lib.hid hH3; have c0 := hH3.at 0; have c1 := hH3.at 1; have c2 := hH3.at 2; have f0 := hH3.soft 0; have f1 := hH3.soft 1; have f2 := hH3.soft 2; have d1 : w3.cell? ⟨w.heap.size + 1, 1, none⟩ = some (.int .i64 (look S P q).seq) := c1; clear c1 hcl hH3 H2 H3; obtain ⟨A3, z3, rfl, hz3, r3, _⟩ := o3.form))
            go_roundw
            case rel => exact ⟨q + 1, v, by simp, by omega, HR.out.kept b3.out, by rw [HN.out]; exact HH3.out, by rw [HN.out]; exact HO.out.kept b3.out, belowThen HB.out b3.out⟩
            case measure => simp only [intOf]; omega
        · have HN := Lib.hid (look_no (S := S) (P := P) (k := q) (fun h => hg h.1))
          have HG := Lib.hid hg
          clear hg
          go_wp2_with (first
            | (go_at_call 67; (with_reducible refine HRd.out.mono ?_); rintro e w2 ⟨A2, c2, rfl, _, r2, _, H2⟩; have HLn2 : (aRead S P (q : Int) 0 320).length = 320 := HLn.out; rw [HLn2] at r2 ⊢; have HGt := Lib.hid (cget_any A2 320 c2 _ w2 r2); clear HRd r2 HLn2)
            | (go_at_call 66; (with_reducible refine HGt.out.mono ?_); rintro e w3 ⟨n3, v3, rs, b, rfl, hcl, o3, H3⟩; clear HGt; obtain ⟨rfl, rfl, rfl⟩ := hcl.none HG.out; have b3 := Lib.hid (belowThen H2 H3); have HBS := Lib.hid (Nat.lt_of_lt_of_le HHd.out.size H2.size); have hH3 := HHd.out.kept b3.out; have HH3 := Lib.hid hH3; have c0 := hH3.at 0; have c1 := hH3.at 1; have c2 := hH3.at 2; have f0 := hH3.soft 0; have f1 := hH3.soft 1; have f2 := hH3.soft 2; have d1 : w3.cell? ⟨w.heap.size + 1, 1, none⟩ = some (.int .i64 (look S P q).seq) := c1; clear c1 hcl hH3 H2 H3; obtain ⟨A3, z3, rfl, hz3, r3, _⟩ := o3.form))
          go_roundw
          case rel => exact ⟨q + 1, v, by simp, by omega, HR.out.kept b3.out, by rw [HN.out]; exact HH3.out, by rw [HN.out]; exact HO.out.kept b3.out, belowThen HB.out b3.out⟩
          case measure => simp only [intOf]; omega
      · obtain rfl : q = 4 := by omega
        clear hO hB hR hH
        obtain ⟨A3, z3, rfl, hz3, r3, _⟩ := HO.out.form
        have HSR := Lib.hid (setRow_heap wr w.heap.size _ (hcells (look S P 4) (.slice A3 (look S P 4).load.length z3)) 77 (0, 0) HR.out)
        go_wp2_with (first
          | (refine wpList_load_row rfl 77 _ rfl (w.heap.size + 1) rfl 77 _ (0, 0) _ HHd.out Tryz.underlying77 rfl (size59 _ _) ?_)
          | (refine wpList_store_row rfl 77 _ _ rfl w.heap.size (hcells (look S P 4) (.slice A3 (look S P 4).load.length z3)) rfl rfl 77 _ HR.out (size59 _ _) rfl (all3 _ _ _ _ _) ?_))
        refine bodyPost_ret (results_cell_row (p := 2) (ty := 77) rfl _ _ w.heap.size 77 _ (0, 0) _ rfl HSR.out Tryz.underlying77 rfl (size59 _ _)) rfl ?_
        refine ⟨_, rfl, ?_, below_setRow HB.out (Nat.le_refl _) _⟩
        exact (own_by HO.out (fun i hi _ => setRow_other wr w.heap.size i _ (by omega))).lower (by omega)
  · rw [hd_no hc]
    have hd : decide (4 ≤ P.cnt) = false := by simpa using hc
    have b0 : Below w.heap.size w ((w.alloc (.cells #[.int .i64 0, .int .i64 0, .slice none 0 0] 77)).alloc (.cells #[.int .i64 3, .int .i64 0, .slice none 0 0] 77)) := ((Below.refl _ w).alloc (Nat.le_refl _) _).alloc (by simp) _
    have HH := Lib.hid (has_any _ (ha.kept b0))
    rw [hd] at HH
    have k0 : Has ((w.alloc (.cells #[.int .i64 0, .int .i64 0, .slice none 0 0] 77)).alloc (.cells #[.int .i64 3, .int .i64 0, .slice none 0 0] 77)) w.heap.size 77 #[.int .i64 0, .int .i64 0, .slice none 0 0] := (has_new w 77 _).more _
    have k1 : Has ((w.alloc (.cells #[.int .i64 0, .int .i64 0, .slice none 0 0] 77)).alloc (.cells #[.int .i64 3, .int .i64 0, .slice none 0 0] 77)) (w.heap.size + 1) 77 #[.int .i64 3, .int .i64 0, .slice none 0 0] := by
      have := has_new (w.alloc (.cells #[.int .i64 0, .int .i64 0, .slice none 0 0] 77)) 77 #[.int .i64 3, .int .i64 0, .slice none 0 0]
      simpa using this
    have K0 := Lib.hid k0
    have K1 := Lib.hid k1
    clear ha hf hd hc hp k0 k1
    go_enter Tryz.func33, Tryz.ntmps33
    go_wp2_with (first
      | (go_at_call 32; (with_reducible refine HH.out.mono ?_); rintro e w1 ⟨rfl, H1⟩; have b1 := Lib.hid (b0.trans (H1.mono b0.size)); have R1 := Lib.hid (K0.out.kept H1); have L1 := Lib.hid (K1.out.kept H1); clear HH H1)
      | (refine wpList_load_row rfl 77 _ rfl (w.heap.size + 1) rfl 77 _ (0, 0) _ L1.out Tryz.underlying77 rfl size59' ?_)
      | (refine wpList_store_row rfl 77 _ _ rfl w.heap.size #[.int .i64 3, .int .i64 0, .slice none 0 0] rfl rfl 77 _ R1.out size59' rfl (all3 _ _ _ _ _) ?_))
    have HSR := setRow_heap w1 w.heap.size _ #[.int .i64 3, .int .i64 0, .slice none 0 0] 77 (0, 0) R1.out
    refine bodyPost_ret (results_cell_row (p := 2) (ty := 77) rfl _ _ w.heap.size 77 _ (0, 0) _ rfl HSR Tryz.underlying77 rfl size59') rfl ?_
    exact ⟨.slice none 0 0, rfl, own_nil _ _, below_setRow b1.out (Nat.le_refl _) _⟩
end Go.Proofs.YtcecommnpdfhgaaGreatDoor

namespace Go.Proofs.YtcecommnpdfhgaaGreatDoor
open Go.RowKit
set_option linter.unusedVariables false
set_option linter.unusedSimpArgs false

theorem next_any (h : Hd) (A : Option Addr) (n z : Nat) (w : World) (hs : h.sec ≤ 3) : Calls Tryz.prog 37 #[.agg (hcells h (.slice A n z))] w fun e w' => e = .returned (.int .i64 (h.next : Int)) ∧ Below w.heap.size w w' := by
  have b0 : Below w.heap.size w (w.alloc (.cells (hcells h (.slice A n z)) 77)) := (Below.refl _ w).alloc (Nat.le_refl _) _
  unfold Hd.next
  unfold hcells at *
  obtain h0 | h0 | h0 | h0 : h.sec = 0 ∨ h.sec = 1 ∨ h.sec = 2 ∨ h.sec = 3 := by omega
  all_goals
    rw [h0] at b0 ⊢
    clear hs h0
    go_enter Tryz.func37, Tryz.ntmps37
    go_wp2
    go_ret
    exact ⟨rfl, b0⟩
theorem may_yes {S : Fs} {P : Pt} (h : MayP S P) : mayB S P = true := by unfold mayB; exact @decide_eq_true _ (Classical.propDecidable _) h
theorem may_no {S : Fs} {P : Pt} (h : ¬ MayP S P) : mayB S P = false := by unfold mayB; exact @decide_eq_false _ (Classical.propDecidable _) h
set_option maxRecDepth 100000 in
set_option maxHeartbeats 1000000 in
theorem may_any {T x g m k : Nat} {S : Fs} {P : Pt} (A : Option Addr) (n z : Nat) (w : World) (ha : Ar w x g P) (hf : Fl w T g m k S) (hfew : Few S) (hops : S.ops ≤ 1000000) (hp : P.Ok S.wear.length) :
    Calls Tryz.prog 34 #[.agg (hcells (hdOf S P) (.slice A n z)), .pointer (some ⟨x, 0, none⟩)] w fun e w' => e = .returned (.bool (mayB S P)) ∧ Below w.heap.size w w' := by
  have hsec := hd_sec S P
  have hseq := hd_seq S P
  have b0 : Below w.heap.size w (w.alloc (.cells (hcells (hdOf S P) (.slice A n z)) 77)) := (Below.refl _ w).alloc (Nat.le_refl _) _
  have HX0 := Lib.hid (has_new w 77 (hcells (hdOf S P) (.slice A n z)))
  have HN1 := Lib.hid (next_any (hdOf S P) A n z (w.alloc (.cells (hcells (hdOf S P) (.slice A n z)) 77)) hsec)
  have HB0 := Lib.hid b0
  have HA := Lib.hid ha
  have HF := Lib.hid hf
  have HP := Lib.hid hp
  have q1 : IntKind.i64.wrap ((hdOf S P).seq + 1) = (hdOf S P).seq + 1 := by rw [IntKind.wrap_i64]; omega
  have hi : -9223372036854775808 ≤ (hdOf S P).seq + 1 ∧ (hdOf S P).seq + 1 ≤ 9223372036854775807 := by omega
  have HI := Lib.hid hi
  have HSec := Lib.hid hsec
  clear ha hf hp b0 hsec hi hseq
  by_cases hbl : aBlank S P ((hdOf S P).next : Int) = true
  · by_cases hs : Seq ((hdOf S P).seq + 1)
    · rw [may_yes ⟨.inl hbl, hs⟩]
      have herr : errN ((hdOf S P).seq + 1) 0 = 0 := err_none hs (by omega)
      clear hs
      go_enter Tryz.func34, Tryz.ntmps34
      go_wp2_with (first
        | (refine wpList_load_row rfl 77 _ rfl w.heap.size rfl 77 _ (0, 0) _ HX0.out Tryz.underlying77 rfl (size59 _ _) ?_)
        | (go_at_call 37; (with_reducible refine HN1.out.mono ?_); rintro e w1 ⟨rfl, H1⟩; have b1 := Lib.hid (HB0.out.trans (H1.mono HB0.out.size)); have HX1 := Lib.hid (HX0.out.kept H1); have HBl := Lib.hid (ablank_any ((hdOf S P).next : Int) w1 (HA.out.kept b1.out) (HF.out.kept b1.out) HP.out); rw [hbl] at HBl; clear HN1 H1 HX0)
        | (go_at_call 68; (with_reducible refine HBl.out.mono ?_); rintro e w2 ⟨rfl, H2⟩; have b2 := Lib.hid (belowThen b1.out H2); have HX2 := Lib.hid (HX1.out.kept H2); have e1 : w2.cell? ⟨w.heap.size, 1, none⟩ = some (.int .i64 (hdOf S P).seq) := HX2.out.at 1; have HPt := Lib.hid (cput_any ((hdOf S P).seq + 1) none 0 0 [] w2 HI.out (row_nil _)); rw [herr] at HPt; clear HBl H2)
        | (go_at_call 35; (with_reducible refine HPt.out.mono ?_); rintro e w5 ⟨v5, rfl, o5, H5⟩; clear HPt; obtain ⟨A5, z5, rfl, _, _, _⟩ := o5.form; clear o5))
      go_ret
      exact ⟨rfl, belowThen b2.out H5⟩
    · rw [may_no (fun h => hs h.2)]
      have herr : errN ((hdOf S P).seq + 1) 0 = 1 := err_arg hs
      clear hs
      go_enter Tryz.func34, Tryz.ntmps34
      go_wp2_with (first
        | (refine wpList_load_row rfl 77 _ rfl w.heap.size rfl 77 _ (0, 0) _ HX0.out Tryz.underlying77 rfl (size59 _ _) ?_)
        | (go_at_call 37; (with_reducible refine HN1.out.mono ?_); rintro e w1 ⟨rfl, H1⟩; have b1 := Lib.hid (HB0.out.trans (H1.mono HB0.out.size)); have HX1 := Lib.hid (HX0.out.kept H1); have HBl := Lib.hid (ablank_any ((hdOf S P).next : Int) w1 (HA.out.kept b1.out) (HF.out.kept b1.out) HP.out); rw [hbl] at HBl; clear HN1 H1 HX0)
        | (go_at_call 68; (with_reducible refine HBl.out.mono ?_); rintro e w2 ⟨rfl, H2⟩; have b2 := Lib.hid (belowThen b1.out H2); have HX2 := Lib.hid (HX1.out.kept H2); have e1 : w2.cell? ⟨w.heap.size, 1, none⟩ = some (.int .i64 (hdOf S P).seq) := HX2.out.at 1; have HPt := Lib.hid (cput_any ((hdOf S P).seq + 1) none 0 0 [] w2 HI.out (row_nil _)); rw [herr] at HPt; clear HBl H2)
        | (go_at_call 35; (with_reducible refine HPt.out.mono ?_); rintro e w5 ⟨v5, rfl, o5, H5⟩; clear HPt; obtain ⟨A5, z5, rfl, _, _, _⟩ := o5.form; clear o5))
      go_ret
      exact ⟨rfl, belowThen b2.out H5⟩
  · replace hbl : aBlank S P ((hdOf S P).next : Int) = false := by simpa using hbl
    by_cases hl : aLeft S P ((hdOf S P).next : Int) = 0
    · rw [may_no (fun h => h.1.elim (fun h => by rw [hbl] at h; cases h) (fun h => h hl))]
      go_enter Tryz.func34, Tryz.ntmps34
      go_wp2_with (first
        | (refine wpList_load_row rfl 77 _ rfl w.heap.size rfl 77 _ (0, 0) _ HX0.out Tryz.underlying77 rfl (size59 _ _) ?_)
        | (go_at_call 37; (with_reducible refine HN1.out.mono ?_); rintro e w1 ⟨rfl, H1⟩; have b1 := Lib.hid (HB0.out.trans (H1.mono HB0.out.size)); have HX1 := Lib.hid (HX0.out.kept H1); have HBl := Lib.hid (ablank_any ((hdOf S P).next : Int) w1 (HA.out.kept b1.out) (HF.out.kept b1.out) HP.out); rw [hbl] at HBl; clear HN1 H1 HX0)
        | (go_at_call 68; (with_reducible refine HBl.out.mono ?_); rintro e w2 ⟨rfl, H2⟩; have b2 := Lib.hid (belowThen b1.out H2); have HX2 := Lib.hid (HX1.out.kept H2); have c0 : w2.cell? ⟨w.heap.size, 0, none⟩ = some (.int .i64 ((hdOf S P).sec : Int)) := HX2.out.at 0; have c1 : w2.cell? ⟨w.heap.size, 1, none⟩ = some (.int .i64 (hdOf S P).seq) := HX2.out.at 1; have c2 : w2.cell? ⟨w.heap.size, 2, none⟩ = some (.slice A n z) := HX2.out.at 2; have HN2 : Hid (Calls Tryz.prog 37 #[.agg #[.int .i64 ((hdOf S P).sec : Int), .int .i64 (hdOf S P).seq, .slice A n z]] w2 _) := Lib.hid (next_any (hdOf S P) A n z w2 HSec.out); clear HBl H2 HX1)
        | (go_at_call 37; (with_reducible refine HN2.out.mono ?_); rintro e w3 ⟨rfl, H3⟩; have b3 := Lib.hid (belowThen b2.out H3); have HX3 := Lib.hid (HX2.out.kept H3); have HLf := Lib.hid (left_any ((hdOf S P).next : Int) w3 (HA.out.kept b3.out) (HF.out.kept b3.out) hfew hops HP.out); clear HN2 H3 c0 c1 c2)
        | (go_at_call 69; (with_reducible refine HLf.out.mono ?_); rintro e w4 ⟨rfl, H4⟩; have b4 := Lib.hid (belowThen b3.out H4); clear HLf H4))
      go_ret
      exact ⟨rfl, b4.out⟩
    · by_cases hs : Seq ((hdOf S P).seq + 1)
      · rw [may_yes ⟨.inr hl, hs⟩]
        have herr : errN ((hdOf S P).seq + 1) 0 = 0 := err_none hs (by omega)
        clear hs
        go_enter Tryz.func34, Tryz.ntmps34
        go_wp2_with (first
          | (refine wpList_load_row rfl 77 _ rfl w.heap.size rfl 77 _ (0, 0) _ HX0.out Tryz.underlying77 rfl (size59 _ _) ?_)
          | (go_at_call 37; (with_reducible refine HN1.out.mono ?_); rintro e w1 ⟨rfl, H1⟩; have b1 := Lib.hid (HB0.out.trans (H1.mono HB0.out.size)); have HX1 := Lib.hid (HX0.out.kept H1); have HBl := Lib.hid (ablank_any ((hdOf S P).next : Int) w1 (HA.out.kept b1.out) (HF.out.kept b1.out) HP.out); rw [hbl] at HBl; clear HN1 H1 HX0)
          | (go_at_call 68; (with_reducible refine HBl.out.mono ?_); rintro e w2 ⟨rfl, H2⟩; have b2 := Lib.hid (belowThen b1.out H2); have HX2 := Lib.hid (HX1.out.kept H2); have c0 : w2.cell? ⟨w.heap.size, 0, none⟩ = some (.int .i64 ((hdOf S P).sec : Int)) := HX2.out.at 0; have c1 : w2.cell? ⟨w.heap.size, 1, none⟩ = some (.int .i64 (hdOf S P).seq) := HX2.out.at 1; have c2 : w2.cell? ⟨w.heap.size, 2, none⟩ = some (.slice A n z) := HX2.out.at 2; have HN2 : Hid (Calls Tryz.prog 37 #[.agg #[.int .i64 ((hdOf S P).sec : Int), .int .i64 (hdOf S P).seq, .slice A n z]] w2 _) := Lib.hid (next_any (hdOf S P) A n z w2 HSec.out); clear HBl H2 HX1)
          | (go_at_call 37; (with_reducible refine HN2.out.mono ?_); rintro e w3 ⟨rfl, H3⟩; have b3 := Lib.hid (belowThen b2.out H3); have HX3 := Lib.hid (HX2.out.kept H3); have HLf := Lib.hid (left_any ((hdOf S P).next : Int) w3 (HA.out.kept b3.out) (HF.out.kept b3.out) hfew hops HP.out); clear HN2 H3 c0 c1 c2)
          | (go_at_call 69; (with_reducible refine HLf.out.mono ?_); rintro e w4 ⟨rfl, H4⟩; have b4 := Lib.hid (belowThen b3.out H4); have HX4 := Lib.hid (HX3.out.kept H4); have e1 : w4.cell? ⟨w.heap.size, 1, none⟩ = some (.int .i64 (hdOf S P).seq) := HX4.out.at 1; have HPt := Lib.hid (cput_any ((hdOf S P).seq + 1) none 0 0 [] w4 HI.out (row_nil _)); rw [herr] at HPt; clear HLf H4)
          | (go_at_call 35; (with_reducible refine HPt.out.mono ?_); rintro e w5 ⟨v5, rfl, o5, H5⟩; clear HPt; obtain ⟨A5, z5, rfl, _, _, _⟩ := o5.form; clear o5))
        go_ret
        exact ⟨rfl, belowThen b4.out H5⟩
      · rw [may_no (fun h => hs h.2)]
        have herr : errN ((hdOf S P).seq + 1) 0 = 1 := err_arg hs
        clear hs
        go_enter Tryz.func34, Tryz.ntmps34
        go_wp2_with (first
          | (refine wpList_load_row rfl 77 _ rfl w.heap.size rfl 77 _ (0, 0) _ HX0.out Tryz.underlying77 rfl (size59 _ _) ?_)
          | (go_at_call 37; (with_reducible refine HN1.out.mono ?_); rintro e w1 ⟨rfl, H1⟩; have b1 := Lib.hid (HB0.out.trans (H1.mono HB0.out.size)); have HX1 := Lib.hid (HX0.out.kept H1); have HBl := Lib.hid (ablank_any ((hdOf S P).next : Int) w1 (HA.out.kept b1.out) (HF.out.kept b1.out) HP.out); rw [hbl] at HBl; clear HN1 H1 HX0)
          | (go_at_call 68; (with_reducible refine HBl.out.mono ?_); rintro e w2 ⟨rfl, H2⟩; have b2 := Lib.hid (belowThen b1.out H2); have HX2 := Lib.hid (HX1.out.kept H2); have c0 : w2.cell? ⟨w.heap.size, 0, none⟩ = some (.int .i64 ((hdOf S P).sec : Int)) := HX2.out.at 0; have c1 : w2.cell? ⟨w.heap.size, 1, none⟩ = some (.int .i64 (hdOf S P).seq) := HX2.out.at 1; have c2 : w2.cell? ⟨w.heap.size, 2, none⟩ = some (.slice A n z) := HX2.out.at 2; have HN2 : Hid (Calls Tryz.prog 37 #[.agg #[.int .i64 ((hdOf S P).sec : Int), .int .i64 (hdOf S P).seq, .slice A n z]] w2 _) := Lib.hid (next_any (hdOf S P) A n z w2 HSec.out); clear HBl H2 HX1)
          | (go_at_call 37; (with_reducible refine HN2.out.mono ?_); rintro e w3 ⟨rfl, H3⟩; have b3 := Lib.hid (belowThen b2.out H3); have HX3 := Lib.hid (HX2.out.kept H3); have HLf := Lib.hid (left_any ((hdOf S P).next : Int) w3 (HA.out.kept b3.out) (HF.out.kept b3.out) hfew hops HP.out); clear HN2 H3 c0 c1 c2)
          | (go_at_call 69; (with_reducible refine HLf.out.mono ?_); rintro e w4 ⟨rfl, H4⟩; have b4 := Lib.hid (belowThen b3.out H4); have HX4 := Lib.hid (HX3.out.kept H4); have e1 : w4.cell? ⟨w.heap.size, 1, none⟩ = some (.int .i64 (hdOf S P).seq) := HX4.out.at 1; have HPt := Lib.hid (cput_any ((hdOf S P).seq + 1) none 0 0 [] w4 HI.out (row_nil _)); rw [herr] at HPt; clear HLf H4)
          | (go_at_call 35; (with_reducible refine HPt.out.mono ?_); rintro e w5 ⟨v5, rfl, o5, H5⟩; clear HPt; obtain ⟨A5, z5, rfl, _, _, _⟩ := o5.form; clear o5))
        go_ret
        exact ⟨rfl, belowThen b4.out H5⟩
/-- What Last tells. -/
def Lasts (h : Hd) (w : World) (e : Ending) (w' : World) : Prop := ∃ v, e = .returned (.tuple #[.int .i64 h.seq, v, .bool (decide (0 < h.seq))]) ∧ Own w' w.heap.size v h.load.length h.load ∧ Below w.heap.size w w'
set_option maxRecDepth 100000 in
theorem last_any {T x g m k : Nat} {S : Fs} {P : Pt} (w : World) (ha : Ar w x g P) (hf : Fl w T g m k S) (hp : P.Ok S.wear.length) :
    Calls Tryz.prog 20 #[.pointer (some ⟨x, 0, none⟩)] w (Lasts (hdOf S P) w) := by
  have HFi := Lib.hid (find_any w ha hf hp)
  clear ha hf hp
  generalize hdOf S P = h at *
  go_enter Tryz.func20, Tryz.ntmps20
  go_wp2_with (go_at_call 33; (with_reducible refine HFi.out.mono ?_); rintro e w1 ⟨v1, rfl, o1, H1⟩; clear HFi; have HO := Lib.hid o1; obtain ⟨A1, z1, rfl, _, _, _⟩ := o1.form; clear o1; have b1 : Below w.heap.size w (w1.alloc (.cells (hcells h (.slice A1 h.load.length z1)) 77)) := H1.alloc H1.size _; have HX := has_new w1 77 (hcells h (.slice A1 h.load.length z1)); have e1 : (w1.alloc (.cells (hcells h (.slice A1 h.load.length z1)) 77)).cell? ⟨w1.heap.size, 1, none⟩ = some (.int .i64 h.seq) := HX.at 1; have e2 : (w1.alloc (.cells (hcells h (.slice A1 h.load.length z1)) 77)).cell? ⟨w1.heap.size, 2, none⟩ = some (.slice A1 h.load.length z1) := HX.at 2; clear HX; unfold hcells at *)
  go_region
  all_goals
    go_wp2
    go_ret3
    exact ⟨_, rfl, HO.out.kept (((Below.refl _ _).alloc (Nat.le_refl _) _).drew), b1.drew⟩
theorem nexts_any {T x g m k : Nat} {S : Fs} {P : Pt} (w : World) (ha : Ar w x g P) (hf : Fl w T g m k S) (hp : P.Ok S.wear.length) :
    Calls Tryz.prog 22 #[.pointer (some ⟨x, 0, none⟩)] w fun e w' => e = .returned (.int .i64 ((hdOf S P).next : Int)) ∧ Below w.heap.size w w' := by
  have HFi := Lib.hid (find_any w ha hf hp)
  have hsec := hd_sec S P
  have HSec := Lib.hid hsec
  clear ha hf hp hsec
  go_enter Tryz.func22, Tryz.ntmps22
  go_wp2_with (first
    | (go_at_call 33; (with_reducible refine HFi.out.mono ?_); rintro e w1 ⟨v1, rfl, o1, H1⟩; clear HFi; obtain ⟨A1, z1, rfl, _, _, _⟩ := o1.form; clear o1; have HN1 := Lib.hid (next_any (hdOf S P) A1 (hdOf S P).load.length z1 w1 HSec.out))
    | (go_at_call 37; (with_reducible refine HN1.out.mono ?_); rintro e w2 ⟨rfl, H2⟩))
  go_ret
  exact ⟨rfl, belowThen H1 H2⟩
theorem mayR_yes {S : Fs} {P : Pt} (h : 4 ≤ P.cnt) : mayR S P = mayB S P := by
  unfold mayR mayB
  rw [decide_eq_decide]
  exact ⟨fun k => k.2, fun k => ⟨h, k⟩⟩
theorem mayR_no {S : Fs} {P : Pt} (h : ¬ 4 ≤ P.cnt) : mayR S P = false := by unfold mayR; exact @decide_eq_false _ (Classical.propDecidable _) fun k => h k.1
set_option maxRecDepth 100000 in
theorem mays_any {T x g m k : Nat} {S : Fs} {P : Pt} (w : World) (ha : Ar w x g P) (hf : Fl w T g m k S) (hfew : Few S) (hops : S.ops ≤ 1000000) (hp : P.Ok S.wear.length) :
    Calls Tryz.prog 24 #[.pointer (some ⟨x, 0, none⟩)] w fun e w' => e = .returned (.bool (mayR S P)) ∧ Below w.heap.size w w' := by
  have HH := Lib.hid (has_any w ha)
  have HA := Lib.hid ha
  have HF := Lib.hid hf
  have HP := Lib.hid hp
  clear ha hf hp
  by_cases hc : 4 ≤ P.cnt
  · rw [mayR_yes hc]
    rw [show decide (4 ≤ P.cnt) = true by simpa using hc] at HH
    clear hc
    go_enter Tryz.func24, Tryz.ntmps24
    go_wp2_with (first
      | (go_at_call 32; (with_reducible refine HH.out.mono ?_); rintro e w1 ⟨rfl, H1⟩; clear HH; have HFi := Lib.hid (find_any w1 (HA.out.kept H1) (HF.out.kept H1) HP.out))
      | (go_at_call 33; (with_reducible refine HFi.out.mono ?_); rintro e w2 ⟨v2, rfl, o2, H2⟩; clear HFi; obtain ⟨A2, z2, rfl, _, _, _⟩ := o2.form; clear o2; have b2 := Lib.hid (belowThen H1 H2); have HM := Lib.hid (may_any A2 (hdOf S P).load.length z2 w2 (HA.out.kept b2.out) (HF.out.kept b2.out) hfew hops HP.out))
      | (go_at_call 34; (with_reducible refine HM.out.mono ?_); rintro e w3 ⟨rfl, H3⟩))
    go_ret
    exact ⟨rfl, belowThen b2.out H3⟩
  · rw [mayR_no hc]
    rw [show decide (4 ≤ P.cnt) = false by simpa using hc] at HH
    clear hc
    go_enter Tryz.func24, Tryz.ntmps24
    go_wp2_with (go_at_call 32; (with_reducible refine HH.out.mono ?_); rintro e w1 ⟨rfl, H1⟩; clear HH)
    go_ret
    exact ⟨rfl, H1⟩
end Go.Proofs.YtcecommnpdfhgaaGreatDoor

namespace Go.Proofs.YtcecommnpdfhgaaGreatDoor
set_option linter.unusedVariables false
set_option linter.unusedSimpArgs false

/-! ### Bits -/
theorem bit255 {i : Nat} (h : i < 8) : Nat.testBit 255 i = true := by
  obtain h0 | h0 | h0 | h0 | h0 | h0 | h0 | h0 : i = 0 ∨ i = 1 ∨ i = 2 ∨ i = 3 ∨ i = 4 ∨ i = 5 ∨ i = 6 ∨ i = 7 := by omega
  all_goals (subst h0; decide)
theorem bit_lt {x i : Nat} (hx : x ≤ 255) (h : x.testBit i = true) : i < 8 := by
  by_cases hi : i < 8
  · exact hi
  · have : x < 2 ^ i := Nat.lt_of_lt_of_le (show x < 2 ^ 8 by omega) (Nat.pow_le_pow_right (by omega) (by omega))
    rw [Nat.testBit_lt_two_pow this] at h
    cases h
theorem bit_not {x i : Nat} (hx : x ≤ 255) (hi : i < 8) : (255 - x).testBit i = !x.testBit i := by
  rw [← all_ones (show x < 256 by omega), Nat.testBit_xor, bit255 hi]
  simp
theorem mix_bit {o b m : Int} (ho : 0 ≤ o ∧ o ≤ 255) (hb : 0 ≤ b ∧ b ≤ 255) (hm : 0 ≤ m ∧ m ≤ 255) {i : Nat} (hi : i < 8) :
    (mixI o b m).toNat.testBit i = (if m.toNat.testBit i then o.toNat.testBit i else b.toNat.testBit i) := by
  have h1 := and_byt ho hm
  have h2 := andNot_byt hb hm
  unfold mixI
  rw [u8_or _ _ h1.1 (by omega) h2.1 (by omega), Int.toNat_natCast, Nat.testBit_or, u8_and _ _ ho.1 (by omega) hm.1 (by omega), u8_andNot _ _ hb.1 (by omega) hm.1 (by omega), Int.toNat_natCast, Int.toNat_natCast, Nat.testBit_and, Nat.testBit_and, bit_not (by omega) hi]
  cases m.toNat.testBit i <;> simp
theorem mix_up {o m : Int} (ho : 0 ≤ o ∧ o ≤ 255) (hm : 0 ≤ m ∧ m ≤ 255) {i : Nat} (h : o.toNat.testBit i = true) : (mixI o 255 m).toNat.testBit i = true := by
  have hi := bit_lt (by omega) h
  rw [mix_bit ho (by omega) hm hi, show (255 : Int).toNat = 255 from rfl, bit255 hi, h]
  simp
theorem mix_over {b m : Int} (hb : 0 ≤ b ∧ b ≤ 255) (hm : 0 ≤ m ∧ m ≤ 255) {i : Nat} (h : b.toNat.testBit i = true) : (mixI 255 b m).toNat.testBit i = true := by
  have hi := bit_lt (by omega) h
  rw [mix_bit (by omega) hb hm hi, show (255 : Int).toNat = 255 from rfl, bit255 hi, h]
  simp
/-! ### Torn bytes -/
/-- Somewhere a bit is set in a byte and in its opposite. -/
def Torn (z : List Int) : Prop := ∃ k i, k < 160 ∧ i < 8 ∧ (z.getD (2 * k) 0).toNat.testBit i = true ∧ (z.getD (2 * k + 1) 0).toNat.testBit i = true
/-- Bits are set alone. -/
def Grows (o z : List Int) : Prop := ∀ j i, j < 320 → (o.getD j 0).toNat.testBit i = true → (z.getD j 0).toNat.testBit i = true
theorem torn_grows {o z : List Int} (h : Torn o) (hg : Grows o z) : Torn z := by
  obtain ⟨k, i, hk, hi, h1, h2⟩ := h
  exact ⟨k, i, hk, hi, hg _ _ (by omega) h1, hg _ _ (by omega) h2⟩
theorem torn_not {z : List Int} (hl : z.length = 320) (hb : Byt z) (h : Torn z) : ¬ Whole z := by
  rintro ⟨_, hw⟩
  obtain ⟨k, i, hk, hi, h1, h2⟩ := h
  have e := hw k (by omega)
  have hx := byt_at hb (2 * k)
  rw [e, show (255 - z.getD (2 * k) 0).toNat = 255 - (z.getD (2 * k) 0).toNat by omega, bit_not (by omega) hi, h1] at h2
  cases h2
theorem torn_bad {z : List Int} (hl : z.length = 320) (hb : Byt z) (h : Torn z) : ¬ Good z := fun g => torn_not hl hb h g.2.1
theorem byte_ext {x y : Int} (hx : 0 ≤ x ∧ x ≤ 255) (hy : 0 ≤ y ∧ y ≤ 255) (h : ∀ i, i < 8 → x.toNat.testBit i = y.toNat.testBit i) : x = y := by
  have : x.toNat = y.toNat := by
    apply Nat.eq_of_testBit_eq
    intro i
    by_cases hi : i < 8
    · exact h i hi
    · rw [Nat.testBit_lt_two_pow (Nat.lt_of_lt_of_le (show x.toNat < 2 ^ 8 by omega) (Nat.pow_le_pow_right (by omega) (by omega))), Nat.testBit_lt_two_pow (Nat.lt_of_lt_of_le (show y.toNat < 2 ^ 8 by omega) (Nat.pow_le_pow_right (by omega) (by omega)))]
  omega
theorem whole_grows {o z : List Int} (hw : Whole o) (hlo : o.length = 320) (hlz : z.length = 320) (hbo : Byt o) (hbz : Byt z) (hg : Grows o z) : z = o ∨ Torn z := by
  by_cases he : z = o
  · exact .inl he
  right
  have hne : ∃ j, j < 320 ∧ z.getD j 0 ≠ o.getD j 0 := by
    apply Classical.byContradiction
    intro hn
    refine he (list_eq (by omega) fun j hj => ?_)
    apply Classical.byContradiction
    intro h
    exact hn ⟨j, by omega, h⟩
  obtain ⟨j, hj, hd⟩ := hne
  have hbit : ∃ i, i < 8 ∧ (z.getD j 0).toNat.testBit i = true ∧ (o.getD j 0).toNat.testBit i = false := by
    apply Classical.byContradiction
    intro hn
    refine hd (byte_ext (byt_at hbz j) (byt_at hbo j) fun i hi => ?_)
    cases h1 : (z.getD j 0).toNat.testBit i <;> cases h2 : (o.getD j 0).toNat.testBit i
    · rfl
    · rw [hg j i hj h2] at h1; cases h1
    · exact absurd ⟨i, hi, h1, h2⟩ hn
    · rfl
  obtain ⟨i, hi, h1, h2⟩ := hbit
  have hw2 := hw.2
  rw [hlo] at hw2
  have hp := hw2 (j / 2) (by omega)
  have hx := byt_at hbo (2 * (j / 2))
  obtain hjj | hjj : j = 2 * (j / 2) ∨ j = 2 * (j / 2) + 1 := by omega
  · refine ⟨j / 2, i, by omega, hi, by rw [← hjj]; exact h1, hg _ _ (by omega) ?_⟩
    rw [hp, show (255 - o.getD (2 * (j / 2)) 0).toNat = 255 - (o.getD (2 * (j / 2)) 0).toNat by omega, bit_not (by omega) hi, ← hjj, h2]
    rfl
  · refine ⟨j / 2, i, by omega, hi, hg _ _ (by omega) ?_, by rw [← hjj]; exact h1⟩
    have : (o.getD (2 * (j / 2) + 1) 0).toNat.testBit i = !(o.getD (2 * (j / 2)) 0).toNat.testBit i := by
      rw [hp, show (255 - o.getD (2 * (j / 2)) 0).toNat = 255 - (o.getD (2 * (j / 2)) 0).toNat by omega, bit_not (by omega) hi]
    rw [← hjj, h2] at this
    cases h3 : (o.getD (2 * (j / 2)) 0).toNat.testBit i
    · rw [h3] at this; cases this
    · rfl
theorem ffs_at {j : Nat} (h : j < 320) : ffs.getD j 0 = 255 := by
  unfold ffs
  rw [List.getD_eq_getElem?_getD, List.getElem?_replicate, if_pos h]
  rfl
theorem torn_ffs : Torn ffs := ⟨0, 0, by omega, by omega, by rw [ffs_at (by omega)]; decide, by rw [ffs_at (by omega)]; decide⟩
theorem ffs_bad : ¬ Good ffs := torn_bad ffs_len byt_ffs torn_ffs
theorem cell_ffs {n : Int} {zs : List Int} : cellL n zs ≠ ffs := fun h => by
  have hw := put_whole (bareL n zs)
  rw [show putL (bareL n zs) = cellL n zs from rfl, h] at hw
  exact torn_not ffs_len byt_ffs torn_ffs hw

/-! ### A sector behind an operation -/
def mixS (o b m : List Int) : List Int := (List.range 320).map fun j => mixI (o.getD j 0) (b.getD j 0) (mAt m j)
theorem mixS_len (o b m : List Int) : (mixS o b m).length = 320 := by simp [mixS]
theorem mixS_at (o b m : List Int) {j : Nat} (h : j < 320) : (mixS o b m).getD j 0 = mixI (o.getD j 0) (b.getD j 0) (mAt m j) := by
  simp [mixS, List.getD_eq_getElem?_getD, List.getElem?_map, List.getElem?_range h]
theorem mixS_byt {o b m : List Int} (ho : Byt o) (hb : Byt b) (hm : Byt m) : Byt (mixS o b m) := by
  intro x hx
  simp only [mixS, List.mem_map] at hx
  obtain ⟨j, _, rfl⟩ := hx
  exact mix_byt (byt_at ho j) (byt_at hb j) (mAt_byt hm j)
theorem mixS_none {o b : List Int} (ho : Byt o) (hb : Byt b) (hl : b.length = 320) : mixS o b [] = b := by
  refine list_eq (by rw [mixS_len, hl]) fun j hj => ?_
  rw [mixS_len] at hj
  rw [mixS_at _ _ _ hj, mAt_nil, mix_none (byt_at ho j) (byt_at hb j)]
theorem mixS_up {o m : List Int} (ho : Byt o) (hm : Byt m) : Grows o (mixS o ffs m) := by
  intro j i hj h
  rw [mixS_at _ _ _ hj, ffs_at hj]
  exact mix_up (byt_at ho j) (mAt_byt hm j) h
theorem mixS_over {b m : List Int} (hb : Byt b) (hm : Byt m) : Grows b (mixS ffs b m) := by
  intro j i hj h
  rw [mixS_at _ _ _ hj, ffs_at hj]
  exact mix_over (byt_at hb j) (mAt_byt hm j) h
theorem sec_is {S : Fs} {P : Pt} (hS : S.Ok) (hp : P.Ok S.wear.length) {s : Nat} (hs : s < P.cnt) : secL S P s = (S.mem.drop ((P.fst + s) * 320)).take 320 := by
  have h1 := hp.in'
  have h2 := hS.len
  unfold secL aRead
  rw [if_pos ⟨⟨by omega, by omega⟩, by omega, by omega, by omega⟩]
  have e : P.place (s : Int) 0 = (((P.fst + s) * 320 : Nat) : Int) := by unfold Pt.place; omega
  rw [e, show (320 : Int) = ((320 : Nat) : Int) from rfl, read_yes (by omega) (by omega)]
theorem sec_len' {S : Fs} {P : Pt} (hS : S.Ok) (hp : P.Ok S.wear.length) {s : Nat} (hs : s < P.cnt) : (secL S P s).length = 320 := by
  have h1 := hp.in'
  have h2 := hS.len
  rw [sec_is hS hp hs, List.length_take, List.length_drop]
  omega
theorem sec_at {S : Fs} {P : Pt} (hS : S.Ok) (hp : P.Ok S.wear.length) {s : Nat} (hs : s < P.cnt) {j : Nat} (hj : j < 320) : (secL S P s).getD j 0 = S.mem.getD ((P.fst + s) * 320 + j) 0 := by
  rw [sec_is hS hp hs, getD_take _ _ _ hj, getD_drop]
/-- The mask that an operation meets. -/
def nowM (S : Fs) : List Int := match S.cut with
  | some (0, m) => m
  | _ => []
theorem nowM_byt {S : Fs} (h : S.Ok) : Byt (nowM S) := by
  unfold nowM
  split
  · rename_i m hm; exact (h.mask _ _ hm).1
  · exact byt_nil
theorem work_mem (S : Fs) (a : Nat) (b : List Int) : (work S a b).2.mem = put S.mem a b (nowM S) := by
  unfold work nowM
  rcases S.cut with _ | ⟨_ | k, m⟩ <;> rfl
theorem work_how (S : Fs) (a : Nat) (b : List Int) : ((work S a b).1 = 0 ∧ nowM S = [] ∧ (work S a b).2.off = S.off) ∨ ((work S a b).1 = 4 ∧ (work S a b).2.off = true) := by
  unfold work nowM
  rcases S.cut with _ | ⟨_ | k, m⟩
  · exact .inl ⟨rfl, rfl, rfl⟩
  · exact .inr ⟨rfl, rfl⟩
  · exact .inl ⟨rfl, rfl, rfl⟩
theorem work_cut {S : Fs} (a : Nat) (b : List Int) (h : S.cut = none) : (work S a b).1 = 0 ∧ (work S a b).2.off = S.off ∧ (work S a b).2.cut = none ∧ nowM S = [] := by
  unfold work nowM
  rw [h]
  exact ⟨rfl, rfl, rfl, rfl⟩
theorem work_ops (S : Fs) (a : Nat) (b : List Int) : (work S a b).2.ops = S.ops + 1 := (work_wear S a b).2
/-- What an operation does to its sector, and to the others. -/
theorem work_sec {S : Fs} {P : Pt} (hS : S.Ok) (hp : P.Ok S.wear.length) {s : Nat} (hs : s < P.cnt) {b : List Int} (hb : Byt b) (hl : b.length = 320) {t : Nat} (ht : t < P.cnt) :
    secL (work S ((P.fst + s) * 320) b).2 P t = if t = s then mixS (secL S P s) b (nowM S) else secL S P t := by
  have hS' := work_ok hS ((P.fst + s) * 320) hb
  have hw := (work_wear S ((P.fst + s) * 320) b).1
  have hp' : P.Ok (work S ((P.fst + s) * 320) b).2.wear.length := by rw [hw]; exact hp
  have h1 := hp.in'
  have h2 := hS.len
  refine list_eq ?_ fun j hj => ?_
  · rw [sec_len' hS' hp' ht]
    split
    · rw [mixS_len]
    · rw [sec_len' hS hp ht]
  · rw [sec_len' hS' hp' ht] at hj
    rw [sec_at hS' hp' ht hj, work_mem, put_at _ _ _ _ _ (by omega)]
    by_cases e : t = s
    · subst e
      rw [if_pos rfl, if_pos ⟨by omega, by omega⟩, mixS_at _ _ _ hj, sec_at hS hp ht hj, Nat.add_sub_cancel_left]
    · rw [if_neg e, if_neg (by omega), sec_at hS hp ht hj]
theorem blank_is {S : Fs} {P : Pt} (hS : S.Ok) (hp : P.Ok S.wear.length) {s : Nat} (hs : s < P.cnt) : aBlank S P (s : Int) = true ↔ secL S P s = ffs := by
  have h1 := hp.in'
  have h2 := hS.len
  unfold aBlank
  rw [if_pos ⟨by omega, by omega⟩]
  unfold blank
  rw [if_pos ⟨by omega, by omega⟩, show ((P.fst : Int) + (s : Int)).toNat = P.fst + s by omega]
  unfold allFF
  rw [List.all_eq_true]
  constructor
  · intro h
    refine list_eq (by rw [sec_len' hS hp hs, ffs_len]) fun j hj => ?_
    rw [sec_len' hS hp hs] at hj
    have := h j (List.mem_range.2 hj)
    rw [sec_at hS hp hs hj, ffs_at hj, Nat.mul_comm]
    simpa using this
  · intro h j hj
    have hj' := List.mem_range.1 hj
    have e := sec_at hS hp hs hj'
    rw [h, ffs_at hj'] at e
    rw [Nat.mul_comm 320, ← e]
    rfl
theorem rg_clear {x : Int} (hx : 0 ≤ x ∧ x ≤ 255) : bits .andNot .u8 x 255 = 0 := by
  rw [u8_andNot x 255 hx.1 (by omega) (by omega) (by omega)]
  simp
theorem prog_blank {S : Fs} {P : Pt} (hS : S.Ok) (hp : P.Ok S.wear.length) (ho : S.off = false) {s : Nat} (hs : s < P.cnt) (hbl : secL S P s = ffs) {b : List Int} (hb : Byt b) (hl : b.length = 320) :
    aProg S P (s : Int) 0 b = work S ((P.fst + s) * 320) b := by
  have h1 := hp.in'
  have h2 := hS.len
  unfold aProg
  rw [if_pos ⟨⟨by omega, by omega⟩, by omega, by omega, by omega⟩]
  have e : P.place (s : Int) 0 = (((P.fst + s) * 320 : Nat) : Int) := by unfold Pt.place; omega
  rw [e, prog_ok' ho ⟨by omega, by omega⟩ ?_, Int.toNat_natCast]
  rw [Int.toNat_natCast]
  unfold sets setsN
  rw [List.any_eq_false]
  intro i hi
  have hi' := List.mem_range.1 hi
  have q := sec_at hS hp hs (j := i) (by omega)
  rw [hbl, ffs_at (by omega)] at q
  rw [← q, rg_clear (byt_at hb i)]
  decide
theorem erase_is {S : Fs} {P : Pt} (hp : P.Ok S.wear.length) (ho : S.off = false) {s : Nat} (hs : s < P.cnt) (hl : aLeft S P (s : Int) ≠ 0) :
    aErase S P (s : Int) = work (worn S (P.fst + s)) ((P.fst + s) * 320) ffs := by
  have h1 := hp.in'
  unfold aErase
  rw [if_pos ⟨by omega, by omega⟩, if_neg hl, erase_ok' ho ⟨by omega, by omega⟩, show ((P.fst : Int) + (s : Int)).toNat = P.fst + s by omega, Nat.mul_comm]
theorem worn_sec (S : Fs) (q : Nat) (P : Pt) (s : Nat) : secL (worn S q) P s = secL S P s := rfl
theorem worn_len (S : Fs) (q : Nat) : (worn S q).wear.length = S.wear.length := by simp [worn]
theorem worn_now (S : Fs) (q : Nat) : nowM (worn S q) = nowM S := rfl
end Go.Proofs.YtcecommnpdfhgaaGreatDoor

namespace Go.Proofs.YtcecommnpdfhgaaGreatDoor
open Go.RowKit
set_option linter.unusedVariables false
set_option linter.unusedSimpArgs false

/-- The sector of the last one, below 0 where there is none. -/
def Hd.at' (h : Hd) : Int := if 0 < h.seq then (h.sec : Int) else -1
theorem at_no {h : Hd} (e : h.seq = 0) : h.at' = -1 := by unfold Hd.at'; rw [if_neg (by omega)]
theorem at_yes {h : Hd} (e : 0 < h.seq) : h.at' = (h.sec : Int) := if_pos e
/-- So many sectors are looked at. -/
def Rlooks (S : Fs) (P : Pt) (w : World) (v5 v6 v7 v8 : Value) (wr : World) : Prop :=
  ∃ q : Nat, v5 = .int .i64 (look S P q).at' ∧ v6 = .int .i64 (look S P q).seq ∧ v8 = .int .i64 (q : Int) ∧ q ≤ 4 ∧ Own wr w.heap.size v7 (look S P q).load.length (look S P q).load ∧ Below w.heap.size w wr
/-- What last answers. -/
def Rlasts (h : Hd) (w : World) (e : Ending) (w' : World) : Prop := ∃ v, e = .returned (.tuple #[.int .i64 h.at', .int .i64 h.seq, v]) ∧ Own w' w.heap.size v h.load.length h.load ∧ Below w.heap.size w w'
set_option maxRecDepth 100000 in
set_option maxHeartbeats 1000000 in
theorem rfind_any {T x g m k : Nat} {S : Fs} {P : Pt} (w : World) (ha : Rar w x g P) (hf : Rl w T g m k S) (hp : P.Ok S.wear.length) : Calls Tryz.prog 39 #[.pointer (some ⟨x, 0, none⟩)] w (Rlasts (hdOf S P) w) := by
  have HA := Lib.hid ha
  have HF := Lib.hid hf
  have HP := Lib.hid hp
  by_cases hc : 4 ≤ P.cnt
  · rw [hd_yes hc]
    have HC := Lib.hid hc
    have c4 : (4 : Int) ≤ (P.cnt : Int) := by omega
    have HS := Lib.hid (show Rlooks S P w (.int .i64 (-1)) (.int .i64 0) (.slice none 0 0) (.int .i64 0) w from ⟨0, by rw [at_no rfl], rfl, rfl, by omega, own_nil _ _, Below.refl _ _⟩)
    clear ha hf hp hc
    go_enter Tryz.func39, Tryz.ntmps39
    go_wp2_with fail
    go_loopw [5, 6, 7, 8] (Rlooks S P w) (fun _ _ _ i _ => 4 - (intOf i).toNat)
    case atStart => exact HS.out
    case round =>
      clear HS
      obtain ⟨q, rfl, rfl, rfl, hq, hO, hB⟩ := hrel
      have HO := Lib.hid hO
      have HB := Lib.hid hB
      obtain ⟨_, _, cc, _⟩ := ra_cells (HA.out.kept HB.out)
      clear hO hB
      by_cases hlt : q < 4
      · have i1 : (q : Int) < 4 := by omega
        have q1 : IntKind.i64.wrap ((q : Int) + 1) = (q : Int) + 1 := by rw [IntKind.wrap_i64]; omega
        have HRd := Lib.hid (raread_any (q : Int) 0 320 _ (HA.out.kept HB.out) (HF.out.kept HB.out) HP.out ⟨by omega, by omega⟩ ⟨by omega, by omega⟩)
        have HLn := Lib.hid (sec_len HF.out.ok HP.out HC.out hlt)
        by_cases hg : Good (secL S P q)
        · have HG := Lib.hid hg
          by_cases hn : (look S P q).seq < seqN (secL S P q)
          · have HN := Lib.hid (look_yes (S := S) (P := P) (k := q) ⟨hg, hn⟩)
            have HPos := Lib.hid (show 0 < seqN (secL S P q) by have := (look_seq S P q).1; omega)
            replace hn : (look S P q).seq < seqN (aRead S P (q : Int) 0 320) := hn
            clear hg
            go_wp2_with (first
              | (go_at_call 78; (with_reducible refine HRd.out.mono ?_); rintro e w2 ⟨A2, c2, rfl, _, r2, _, H2⟩; have HLn2 : (aRead S P (q : Int) 0 320).length = 320 := HLn.out; rw [HLn2] at r2 ⊢; have HGt := Lib.hid (rcget_any A2 320 c2 _ w2 r2 (by omega)); clear HRd r2 HLn2)
              | (go_at_call 77; (with_reducible refine HGt.out.mono ?_); rintro e w3 ⟨n3, v3, rs, b, rfl, hcl, o3, H3⟩; clear HGt; obtain ⟨rfl, rfl, rfl⟩ := hcl.some HG.out; have b3 := Lib.hid (belowThen H2 H3); have HO3 := Lib.hid o3; have HBS := Lib.hid (Nat.le_trans HB.out.size H2.size); clear hcl H2 H3 o3))
            go_roundw
            case rel => exact ⟨q + 1, by rw [HN.out, at_yes HPos.out], by rw [HN.out]; rfl, by simp, by omega, by rw [HN.out]; exact HO3.out.lower HBS.out, belowThen HB.out b3.out⟩
            case measure => simp only [intOf]; omega
          · have HN := Lib.hid (look_no (S := S) (P := P) (k := q) (fun h => hn h.2))
            replace hn : ¬ (look S P q).seq < seqN (aRead S P (q : Int) 0 320) := hn
            clear hg
            go_wp2_with (first
              | (go_at_call 78; (with_reducible refine HRd.out.mono ?_); rintro e w2 ⟨A2, c2, rfl, _, r2, _, H2⟩; have HLn2 : (aRead S P (q : Int) 0 320).length = 320 := HLn.out; rw [HLn2] at r2 ⊢; have HGt := Lib.hid (rcget_any A2 320 c2 _ w2 r2 (by omega)); clear HRd r2 HLn2)
              | (go_at_call 77; (with_reducible refine HGt.out.mono ?_); rintro e w3 ⟨n3, v3, rs, b, rfl, hcl, o3, H3⟩; clear HGt; obtain ⟨rfl, rfl, rfl⟩ := hcl.some HG.out; have b3 := Lib.hid (belowThen H2 H3); have HO3 := Lib.hid o3; have HBS := Lib.hid (Nat.le_trans HB.out.size H2.size); clear hcl H2 H3 o3))
            go_roundw
            case rel => exact ⟨q + 1, by rw [HN.out], by rw [HN.out], by simp, by omega, by rw [HN.out]; exact HO.out.kept b3.out, belowThen HB.out b3.out⟩
            case measure => simp only [intOf]; omega
        · have HN := Lib.hid (look_no (S := S) (P := P) (k := q) (fun h => hg h.1))
          have HG := Lib.hid hg
          clear hg
          go_wp2_with (first
            | (go_at_call 78; (with_reducible refine HRd.out.mono ?_); rintro e w2 ⟨A2, c2, rfl, _, r2, _, H2⟩; have HLn2 : (aRead S P (q : Int) 0 320).length = 320 := HLn.out; rw [HLn2] at r2 ⊢; have HGt := Lib.hid (rcget_any A2 320 c2 _ w2 r2 (by omega)); clear HRd r2 HLn2)
            | (go_at_call 77; (with_reducible refine HGt.out.mono ?_); rintro e w3 ⟨n3, v3, rs, b, rfl, hcl, o3, H3⟩; clear HGt; obtain ⟨rfl, rfl, rfl⟩ := hcl.none HG.out; have b3 := Lib.hid (belowThen H2 H3); have HO3 := Lib.hid o3; have HBS := Lib.hid (Nat.le_trans HB.out.size H2.size); clear hcl H2 H3 o3))
          go_roundw
          case rel => exact ⟨q + 1, by rw [HN.out], by rw [HN.out], by simp, by omega, by rw [HN.out]; exact HO.out.kept b3.out, belowThen HB.out b3.out⟩
          case measure => simp only [intOf]; omega
      · obtain rfl : q = 4 := by omega
        go_wp2
        go_ret3
        exact ⟨_, rfl, HO.out, HB.out⟩
  · rw [hd_no hc]
    obtain ⟨_, _, cc, _⟩ := ra_cells ha
    have c4 : ¬ (4 : Int) ≤ (P.cnt : Int) := by omega
    clear ha hf hp hc HA HF HP
    go_enter Tryz.func39, Tryz.ntmps39
    go_wp2_with fail
    go_loopw [5, 6, 7, 8] (fun v5 v6 v7 v8 wr => v5 = .int .i64 (-1) ∧ v6 = .int .i64 0 ∧ v7 = .slice none 0 0 ∧ v8 = .int .i64 0 ∧ w = wr) (fun _ _ _ _ _ => 0)
    case atStart => exact ⟨rfl, rfl, rfl, rfl, rfl⟩
    case round =>
      obtain ⟨rfl, rfl, rfl, rfl, rfl⟩ := hrel
      go_wp2
      go_ret3
      exact ⟨_, rfl, own_nil _ _, Below.refl _ _⟩
theorem rnext_is {h : Hd} (hs : h.sec ≤ 3) (hz : h.seq = 0 → h.sec = 3) (h0 : 0 ≤ h.seq) : (IntKind.i64.wrap (h.at' + 1)).tmod 4 = (h.next : Int) := by
  unfold Hd.next
  by_cases e : 0 < h.seq
  · rw [at_yes e, IntKind.wrap_i64]
    obtain h1 | h1 | h1 | h1 : h.sec = 0 ∨ h.sec = 1 ∨ h.sec = 2 ∨ h.sec = 3 := by omega
    all_goals (rw [h1]; decide)
  · rw [at_no (by omega), hz (by omega), IntKind.wrap_i64]
    decide
theorem look_zero (S : Fs) (P : Pt) : ∀ k, (look S P k).seq = 0 → (look S P k).sec = 3
  | 0, _ => rfl
  | k + 1, h => by
    by_cases h1 : Newer S P (look S P k) k
    · rw [look_yes h1] at h
      have := h1.1.2.2.1
      simp only [] at h
      omega
    · rw [look_no h1] at h ⊢
      exact look_zero S P k h
theorem hd_zero (S : Fs) (P : Pt) (h : (hdOf S P).seq = 0) : (hdOf S P).sec = 3 := by
  unfold hdOf at *
  split
  · rename_i hc
    rw [if_pos hc] at h
    exact look_zero S P 4 h
  · rfl
set_option maxRecDepth 100000 in
theorem rlast_any {T x g m k : Nat} {S : Fs} {P : Pt} (w : World) (ha : Rar w x g P) (hf : Rl w T g m k S) (hp : P.Ok S.wear.length) : Calls Tryz.prog 21 #[.pointer (some ⟨x, 0, none⟩)] w (Lasts (hdOf S P) w) := by
  have HFi := Lib.hid (rfind_any w ha hf hp)
  have hq := hd_seq S P
  have hdc : decide ((0 : Int) ≤ (hdOf S P).at') = decide (0 < (hdOf S P).seq) := by
    rw [decide_eq_decide]
    unfold Hd.at'
    split
    · rename_i h; exact ⟨fun _ => h, fun _ => by omega⟩
    · rename_i h; exact ⟨fun k => by omega, fun k => absurd k h⟩
  have HDC := Lib.hid hdc
  clear ha hf hp hq hdc
  go_enter Tryz.func21, Tryz.ntmps21
  go_wp2_with (go_at_call 39; (with_reducible refine HFi.out.mono ?_); rintro e w1 ⟨v1, rfl, o1, H1⟩; clear HFi)
  go_ret3
  exact ⟨v1, by rw [← HDC.out]; rfl, o1, H1⟩
set_option maxRecDepth 100000 in
theorem rnext_any {T x g m k : Nat} {S : Fs} {P : Pt} (w : World) (ha : Rar w x g P) (hf : Rl w T g m k S) (hp : P.Ok S.wear.length) : Calls Tryz.prog 23 #[.pointer (some ⟨x, 0, none⟩)] w fun e w' => e = .returned (.int .i64 ((hdOf S P).next : Int)) ∧ Below w.heap.size w w' := by
  have HFi := Lib.hid (rfind_any w ha hf hp)
  have hq := hd_seq S P
  have hn := rnext_is (hd_sec S P) (hd_zero S P) hq.1
  have HN := Lib.hid hn
  have ha' : IntKind.i64.wrap ((hdOf S P).at' + 1) = (hdOf S P).at' + 1 := by
    have := hd_sec S P
    rw [IntKind.wrap_i64]
    unfold Hd.at'
    split <;> omega
  rw [ha'] at HN
  clear ha hf hp hq hn
  go_enter Tryz.func23, Tryz.ntmps23
  go_wp2_with (go_at_call 39; (with_reducible refine HFi.out.mono ?_); rintro e w1 ⟨v1, rfl, o1, H1⟩; clear HFi)
  go_ret
  exact ⟨ret_int HN.out, H1⟩
end Go.Proofs.YtcecommnpdfhgaaGreatDoor

namespace Go.Proofs.YtcecommnpdfhgaaGreatDoor
open Go.RowKit
set_option linter.unusedVariables false
set_option linter.unusedSimpArgs false

theorem erase_len (S : Fs) (P : Pt) (s : Int) : (aErase S P s).2.wear.length = S.wear.length := (aErase_wears S P s).1
set_option maxRecDepth 100000 in
set_option maxHeartbeats 1000000 in
theorem fill_any {T x g m k : Nat} {S : Fs} {P : Pt} (s : Nat) (A : Option Addr) (n z : Nat) (zs : List Int) (w : World) (ha : Ar w x g P) (hx : ¬ In3 g m k x) (hf : Fl w T g m k S) (hfew : Few S) (hops : S.ops ≤ 999999) (hp : P.Ok S.wear.length)
    (hr : Row w A n zs) (hA : Clear g m k A n) :
    Calls Tryz.prog 36 #[.pointer (some ⟨x, 0, none⟩), .int .i64 (s : Int), .slice A n z] w fun e w' => e = .returned (.int .i64 (fillS S P s zs).1) ∧ FlTo T g m k (fillS S P s zs).2 w w' := by
  have HBl := Lib.hid (ablank_any (s : Int) w ha hf hp)
  have HA := Lib.hid ha
  have HF := Lib.hid hf
  have HP := Lib.hid hp
  have HR := Lib.hid hr
  have HC := Lib.hid hA
  have HX := Lib.hid hx
  clear ha hf hp hr hA hx
  by_cases hbl : aBlank S P (s : Int) = true
  · rw [hbl] at HBl
    rw [fill_blank hbl]
    clear hbl
    go_enter Tryz.func36, Tryz.ntmps36
    go_wp2_with (first
      | (go_at_call 68; (with_reducible refine HBl.out.mono ?_); rintro e w1 ⟨rfl, H1⟩; clear HBl; have HPr := Lib.hid (aprogram_any (s : Int) 0 A n z zs w1 (HA.out.kept H1) (HF.out.kept H1) HP.out ⟨by omega, by omega⟩ (row_below H1 HR.out) HC.out (by omega)))
      | (go_at_call 76; (with_reducible refine HPr.out.mono ?_); rintro e w2 ⟨rfl, H2⟩))
    go_ret
    exact ⟨rfl, H2.1, (Only.of_below H1).trans H2.2⟩
  · replace hbl : aBlank S P (s : Int) = false := by simpa using hbl
    rw [hbl] at HBl
    by_cases he : (aErase S P (s : Int)).1 = 0
    · rw [fill_two hbl he]
      clear hbl
      have HE0 := Lib.hid he
      clear he
      go_enter Tryz.func36, Tryz.ntmps36
      go_wp2_with (first
        | (go_at_call 68; (with_reducible refine HBl.out.mono ?_); rintro e w1 ⟨rfl, H1⟩; clear HBl; have HE := Lib.hid (aerase_any (s : Int) w1 (HA.out.kept H1) (HF.out.kept H1) hfew (by omega) HP.out); rw [HE0.out] at HE)
        | (go_at_call 75; (with_reducible refine HE.out.mono ?_); rintro e w2 ⟨rfl, H2⟩; clear HE; have HPr := Lib.hid (aprogram_any (s : Int) 0 A n z zs w2 ((HA.out.kept H1).only H2.2 HX.out) H2.1 (by rw [erase_len]; exact HP.out) ⟨by omega, by omega⟩ (row_clear (row_below H1 HR.out) H2.2 HC.out) HC.out (by have := (aErase_wears S P (s : Int)).2; omega)))
        | (go_at_call 76; (with_reducible refine HPr.out.mono ?_); rintro e w3 ⟨rfl, H3⟩))
      go_ret
      exact ⟨rfl, H3.1, ((Only.of_below H1).trans H2.2).trans H3.2⟩
    · rw [fill_err hbl he]
      clear hbl
      go_enter Tryz.func36, Tryz.ntmps36
      go_wp2_with (first
        | (go_at_call 68; (with_reducible refine HBl.out.mono ?_); rintro e w1 ⟨rfl, H1⟩; clear HBl; have HE := Lib.hid (aerase_any (s : Int) w1 (HA.out.kept H1) (HF.out.kept H1) hfew (by omega) HP.out))
        | (go_at_call 75; (with_reducible refine HE.out.mono ?_); rintro e w2 ⟨rfl, H2⟩; clear HE))
      go_ret
      exact ⟨rfl, H2.1, (Only.of_below H1).trans H2.2⟩
theorem Fl.lt {w : World} {T g m k : Nat} {S : Fs} (h : Fl w T g m k S) {b : Nat} (hb : In3 g m k b) : b < w.heap.size := by
  obtain ⟨_, _, _, _, _, a, _⟩ := h
  rcases hb with rfl | rfl | rfl
  · exact a.str.size
  · exact a.mem.size
  · exact a.wear.size
set_option maxRecDepth 100000 in
set_option maxHeartbeats 1000000 in
theorem put_ring {T x g m k : Nat} {S : Fs} {P : Pt} (A : Option Addr) (n z : Nat) (zs : List Int) (w : World) (ha : Ar w x g P) (hx : ¬ In3 g m k x) (hf : Fl w T g m k S) (hfew : Few S) (hops : S.ops ≤ 999999) (hp : P.Ok S.wear.length)
    (hr : Row w A n zs) :
    Calls Tryz.prog 10 #[.pointer (some ⟨x, 0, none⟩), .slice A n z] w fun e w' => e = .returned (.int .i64 (putR S P zs).1) ∧ FlTo T g m k (putR S P zs).2 w w' := by
  have HH := Lib.hid (has_any w ha)
  have HA := Lib.hid ha
  have HF := Lib.hid hf
  have HP := Lib.hid hp
  have HR := Lib.hid hr
  have HX := Lib.hid hx
  have hl := hr.1
  clear ha hf hp hr hx
  by_cases hc : 4 ≤ P.cnt
  · rw [show decide (4 ≤ P.cnt) = true by simpa using hc] at HH
    by_cases hn : 156 < n
    · rw [put_long hc (by omega)]
      have i1 : (156 : Int) < (n : Int) := by omega
      clear hc hl hn
      go_enter Tryz.func10, Tryz.ntmps10
      go_wp2_with (go_at_call 32; (with_reducible refine HH.out.mono ?_); rintro e w1 ⟨rfl, H1⟩; clear HH)
      go_ret
      exact ⟨rfl, HF.out.kept H1, Only.of_below H1⟩
    · have i1 : ¬ (156 : Int) < (n : Int) := by omega
      have hseq := hd_seq S P
      have hsec := hd_sec S P
      have HSec := Lib.hid hsec
      have q1 : IntKind.i64.wrap ((hdOf S P).seq + 1) = (hdOf S P).seq + 1 := by rw [IntKind.wrap_i64]; omega
      have HI := Lib.hid (show -9223372036854775808 ≤ (hdOf S P).seq + 1 ∧ (hdOf S P).seq + 1 ≤ 9223372036854775807 by omega)
      by_cases hm : MayP S P
      · rw [put_does hc (by omega) hm]
        have HM0 := Lib.hid (may_yes hm)
        have HErr := Lib.hid (err_none (len := n) hm.2 (by omega))
        have HOut := Lib.hid (out_some (zs := zs) (len := n) hm.2 (by omega))
        clear hc hm hl hn hseq hsec
        go_enter Tryz.func10, Tryz.ntmps10
        go_wp2_with (first
          | (go_at_call 32; (with_reducible refine HH.out.mono ?_); rintro e w1 ⟨rfl, H1⟩; clear HH; have HFi := Lib.hid (find_any w1 (HA.out.kept H1) (HF.out.kept H1) HP.out))
          | (go_at_call 33; (with_reducible refine HFi.out.mono ?_); rintro e w2 ⟨v2, rfl, o2, H2⟩; clear HFi; obtain ⟨A2, z2, rfl, _, _, _⟩ := o2.form; clear o2; have b2 := Lib.hid ((belowThen H1 H2).alloc (belowThen H1 H2).size (.cells (hcells (hdOf S P) (.slice A2 (hdOf S P).load.length z2)) 77)); have HX2 := Lib.hid (has_new w2 77 (hcells (hdOf S P) (.slice A2 (hdOf S P).load.length z2))); have HM := Lib.hid (may_any A2 (hdOf S P).load.length z2 _ (HA.out.kept b2.out) (HF.out.kept b2.out) hfew (by omega) HP.out); rw [HM0.out] at HM; unfold hcells at HM ⊢)
          | (go_at_call 34; (with_reducible refine HM.out.mono ?_); rintro e w3 ⟨rfl, H3⟩; clear HM; have b3 := Lib.hid (belowThen b2.out H3); have HX3 := Lib.hid (HX2.out.kept H3); have e1 : w3.cell? ⟨w2.heap.size, 1, none⟩ = some (.int .i64 (hdOf S P).seq) := HX3.out.at 1; have HPt := Lib.hid (cput_any ((hdOf S P).seq + 1) A n z zs w3 HI.out (row_below b3.out HR.out)); rw [HErr.out, HOut.out] at HPt)
          | (go_at_call 35; (with_reducible refine HPt.out.mono ?_); rintro e w4 ⟨v4, rfl, o4, H4⟩; clear HPt e1; rw [cell_len] at o4; obtain ⟨A4, z4, rfl, _, r4, k4⟩ := o4.form; clear o4; have b4 := Lib.hid (belowThen b3.out H4); have HX4 := Lib.hid (HX3.out.kept H4); have c0 : w4.cell? ⟨w2.heap.size, 0, none⟩ = some (.int .i64 ((hdOf S P).sec : Int)) := HX4.out.at 0; have c1 : w4.cell? ⟨w2.heap.size, 1, none⟩ = some (.int .i64 (hdOf S P).seq) := HX4.out.at 1; have c2 : w4.cell? ⟨w2.heap.size, 2, none⟩ = some (.slice A2 (hdOf S P).load.length z2) := HX4.out.at 2; have HN : Hid (Calls Tryz.prog 37 #[.agg #[.int .i64 ((hdOf S P).sec : Int), .int .i64 (hdOf S P).seq, .slice A2 (hdOf S P).load.length z2]] w4 _) := Lib.hid (next_any (hdOf S P) A2 (hdOf S P).load.length z2 w4 HSec.out); have HR4 := Lib.hid r4; have HK4 := Lib.hid k4; clear r4 k4)
          | (go_at_call 37; (with_reducible refine HN.out.mono ?_); rintro e w5 ⟨rfl, H5⟩; clear HN c0 c1 c2; have b5 := Lib.hid (belowThen b4.out H5); have HFl := Lib.hid (fill_any (hdOf S P).next A4 320 z4 (cellL ((hdOf S P).seq + 1) zs) w5 (HA.out.kept b5.out) HX.out (HF.out.kept b5.out) hfew hops HP.out (row_below H5 HR4.out) (.inr (fun y hy hin => by have h1 := (HK4.out y hy).1; have h2 := (HF.out.kept b3.out).lt hin; omega))))
          | (go_at_call 36; (with_reducible refine HFl.out.mono ?_); rintro e w6 ⟨rfl, H6⟩))
        go_ret
        exact ⟨rfl, H6.1, (Only.of_below b5.out).trans H6.2⟩
      · rw [put_worn hc (by omega) hm]
        have HM0 := Lib.hid (may_no hm)
        clear hc hm hl hn hseq hsec
        go_enter Tryz.func10, Tryz.ntmps10
        go_wp2_with (first
          | (go_at_call 32; (with_reducible refine HH.out.mono ?_); rintro e w1 ⟨rfl, H1⟩; clear HH; have HFi := Lib.hid (find_any w1 (HA.out.kept H1) (HF.out.kept H1) HP.out))
          | (go_at_call 33; (with_reducible refine HFi.out.mono ?_); rintro e w2 ⟨v2, rfl, o2, H2⟩; clear HFi; obtain ⟨A2, z2, rfl, _, _, _⟩ := o2.form; clear o2; have b2 := Lib.hid ((belowThen H1 H2).alloc (belowThen H1 H2).size (.cells (hcells (hdOf S P) (.slice A2 (hdOf S P).load.length z2)) 77)); have HM := Lib.hid (may_any A2 (hdOf S P).load.length z2 _ (HA.out.kept b2.out) (HF.out.kept b2.out) hfew (by omega) HP.out); rw [HM0.out] at HM; unfold hcells at HM ⊢)
          | (go_at_call 34; (with_reducible refine HM.out.mono ?_); rintro e w3 ⟨rfl, H3⟩; clear HM; have b3 := Lib.hid (belowThen b2.out H3)))
        go_ret
        exact ⟨rfl, HF.out.kept b3.out, Only.of_below b3.out⟩
  · rw [show decide (4 ≤ P.cnt) = false by simpa using hc] at HH
    rw [put_few hc]
    clear hc hl
    go_enter Tryz.func10, Tryz.ntmps10
    go_wp2_with (go_at_call 32; (with_reducible refine HH.out.mono ?_); rintro e w1 ⟨rfl, H1⟩; clear HH)
    go_ret
    exact ⟨rfl, HF.out.kept H1, Only.of_below H1⟩
end Go.Proofs.YtcecommnpdfhgaaGreatDoor

namespace Go.Proofs.YtcecommnpdfhgaaGreatDoor
set_option linter.unusedVariables false
set_option linter.unusedSimpArgs false

theorem look_below {S : Fs} {P : Pt} {m : Int} (hm : 0 < m) : ∀ k, (∀ s, s < k → Good (secL S P s) → seqN (secL S P s) < m) → (look S P k).seq < m
  | 0, _ => hm
  | k + 1, h => by
    by_cases h1 : Newer S P (look S P k) k
    · rw [look_yes h1]; exact h k (by omega) h1.1
    · rw [look_no h1]; exact look_below hm k fun s hs => h s (by omega)
theorem look_from {S : Fs} {P : Pt} {j : Nat} {h0 : Hd} (hj : look S P (j + 1) = h0) : ∀ d, (∀ s, j < s → s < j + 1 + d → Good (secL S P s) → seqN (secL S P s) < h0.seq) → look S P (j + 1 + d) = h0
  | 0, _ => hj
  | d + 1, h => by
    have ih := look_from hj d fun s h1 h2 => h s h1 (by omega)
    show look S P ((j + 1 + d) + 1) = h0
    rw [look_no (fun hn => ?_), ih]
    have h2 := hn.2
    rw [ih] at h2
    have := h (j + 1 + d) (by omega) (by omega) hn.1
    omega
/-- The last cell. -/
theorem hd_is {S : Fs} {P : Pt} (hc : 4 ≤ P.cnt) {j : Nat} (hj : j < 4) (hg : Good (secL S P j)) (ho : ∀ s, s < 4 → s ≠ j → Good (secL S P s) → seqN (secL S P s) < seqN (secL S P j)) :
    hdOf S P = ⟨j, seqN (secL S P j), loadL (secL S P j)⟩ := by
  rw [hd_yes hc]
  have hpos : 0 < seqN (secL S P j) := by have := hg.2.2.1; omega
  have h1 : (look S P j).seq < seqN (secL S P j) := look_below hpos j fun s hs => ho s (by omega) (by omega)
  have h2 : look S P (j + 1) = ⟨j, seqN (secL S P j), loadL (secL S P j)⟩ := look_yes ⟨hg, h1⟩
  have h3 := look_from h2 (3 - j) fun s ha hb => ho s (by omega) (by omega)
  rw [show j + 1 + (3 - j) = 4 by omega] at h3
  exact h3
/-- None is there. -/
theorem hd_none {S : Fs} {P : Pt} (ho : ∀ s, s < 4 → ¬ Good (secL S P s)) : hdOf S P = ⟨3, 0, []⟩ := by
  unfold hdOf
  split
  · have : ∀ k, k ≤ 4 → look S P k = ⟨3, 0, []⟩ := by
      intro k
      induction k with
      | zero => intro _; rfl
      | succ k ih => intro hk; rw [look_no (fun h => ho k (by omega) h.1)]; exact ih (by omega)
    exact this 4 (Nat.le_refl _)
  · rfl
/-- What a fill leaves, whatever is cut. -/
structure FilledR (S : Fs) (P : Pt) (s : Nat) (c : List Int) (e : Int) (S' : Fs) : Prop where
  err : e = 0 ∨ e = 4
  ok : S'.Ok
  few : Few S'
  wear : S'.wear.length = S.wear.length
  ops : S'.ops ≤ S.ops + 2
  by' : ∀ t, t < P.cnt → t ≠ s → secL S' P t = secL S P t
  done : e = 0 → secL S' P s = c
  cut : e = 4 → secL S' P s = c ∨ secL S' P s = secL S P s ∨ Torn (secL S' P s)
theorem work_filled {S : Fs} {P : Pt} (hS : S.Ok) (hfew : Few S) (hp : P.Ok S.wear.length) {s : Nat} (hs : s < P.cnt) (hbl : secL S P s = ffs) {n : Int} {zs : List Int} (hz : Byt zs) {e : Int} {S' : Fs} (h : work S ((P.fst + s) * 320) (cellL n zs) = (e, S')) :
    (e = 0 ∨ e = 4) ∧ S'.Ok ∧ Few S' ∧ S'.wear.length = S.wear.length ∧ S'.ops = S.ops + 1 ∧ (∀ t, t < P.cnt → t ≠ s → secL S' P t = secL S P t) ∧ (e = 0 → secL S' P s = cellL n zs) ∧ (e = 4 → secL S' P s = cellL n zs ∨ Torn (secL S' P s)) := by
  have hb := cell_byt n hz
  have hl := cell_len n zs
  have e1 : (work S ((P.fst + s) * 320) (cellL n zs)).1 = e := by rw [h]
  have e2 : (work S ((P.fst + s) * 320) (cellL n zs)).2 = S' := by rw [h]
  have k1 := work_ok hS ((P.fst + s) * 320) hb
  have k2 := few_work hfew ((P.fst + s) * 320) (cellL n zs)
  have k3 := work_wear S ((P.fst + s) * 320) (cellL n zs)
  have k4 := fun t (ht : t < P.cnt) => work_sec hS hp hs hb hl ht
  have k5 := work_how S ((P.fst + s) * 320) (cellL n zs)
  rw [e2] at k1 k2 k3
  simp only [e2] at k4
  rw [e1] at k5
  have k6 := k4 s hs
  rw [if_pos rfl, hbl] at k6
  have hff := byt_ffs
  refine ⟨?_, k1, k2, by rw [k3.1], k3.2, fun t ht hne => by rw [k4 t ht, if_neg hne], fun h0 => ?_, fun h4 => ?_⟩
  · rcases k5 with h | h
    · exact .inl h.1
    · exact .inr h.1
  · rcases k5 with h | h
    · rw [k6, h.2.1, mixS_none hff hb hl]
    · have := h.1; omega
  · rw [k6]
    exact whole_grows (put_whole _) hl (mixS_len _ _ _) hb (mixS_byt hff hb (nowM_byt hS)) (mixS_over hb (nowM_byt hS))
theorem fill_filled {S : Fs} {P : Pt} (hS : S.Ok) (hfew : Few S) (hp : P.Ok S.wear.length) (ho : S.off = false) {s : Nat} (hs : s < P.cnt) (hl : aBlank S P (s : Int) = true ∨ aLeft S P (s : Int) ≠ 0) (hold : Torn (secL S P s) ∨ Whole (secL S P s)) {n : Int} {zs : List Int} (hz : Byt zs) :
    FilledR S P s (cellL n zs) (fillS S P s (cellL n zs)).1 (fillS S P s (cellL n zs)).2 := by
  have hb := cell_byt n hz
  have hcl := cell_len n zs
  by_cases hbl : aBlank S P (s : Int) = true
  · rw [fill_blank hbl]
    have hff := (blank_is hS hp hs).1 hbl
    rw [prog_blank hS hp ho hs hff hb hcl]
    obtain ⟨h1, h2, h3, h4, h5, h6, h7, h8⟩ := work_filled (n := n) (zs := zs) (e := (work S ((P.fst + s) * 320) (cellL n zs)).1) (S' := (work S ((P.fst + s) * 320) (cellL n zs)).2) hS hfew hp hs hff hz rfl
    exact ⟨h1, h2, h3, h4, by omega, h6, h7, fun he => (h8 he).imp id .inr⟩
  · have hbl' : aBlank S P (s : Int) = false := by simpa using hbl
    have hleft := hl.resolve_left hbl
    have he := erase_is hp ho hs hleft
    have hwS := worn_ok hS (P.fst + s)
    have hwp : P.Ok (worn S (P.fst + s)).wear.length := by rw [worn_len]; exact hp
    have hef : Few (aErase S P (s : Int)).2 := few_aErase hfew P s
    have k1 := work_ok hwS ((P.fst + s) * 320) byt_ffs
    have k3 := work_wear (worn S (P.fst + s)) ((P.fst + s) * 320) ffs
    have k4 := fun t (ht : t < P.cnt) => work_sec hwS hwp hs byt_ffs ffs_len ht
    have k5 := work_how (worn S (P.fst + s)) ((P.fst + s) * 320) ffs
    have hsb := sec_byt hS P s
    rw [← he] at k1 k3 k5
    simp only [← he] at k4
    have k6 := k4 s hs
    rw [if_pos rfl] at k6
    have k7 : ∀ t, t < P.cnt → t ≠ s → secL (aErase S P (s : Int)).2 P t = secL S P t := fun t ht hne => by rw [k4 t ht, if_neg hne]; rfl
    have kw : (aErase S P (s : Int)).2.wear.length = S.wear.length := by rw [k3.1, worn_len]
    have ko : (aErase S P (s : Int)).2.ops = S.ops + 1 := k3.2
    rcases k5 with ⟨h0, hm, hoff⟩ | ⟨h0, hoff⟩
    · rw [fill_two hbl' h0]
      have hff : secL (aErase S P (s : Int)).2 P s = ffs := by rw [k6, hm]; exact mixS_none hsb byt_ffs ffs_len
      have hp' : P.Ok (aErase S P (s : Int)).2.wear.length := by rw [kw]; exact hp
      rw [prog_blank k1 hp' (by rw [hoff]; exact ho) hs hff hb hcl]
      obtain ⟨h1, h2, h3, h4, h5, h6, h7, h8⟩ := work_filled (n := n) (zs := zs) (e := (work (aErase S P (s : Int)).2 ((P.fst + s) * 320) (cellL n zs)).1) (S' := (work (aErase S P (s : Int)).2 ((P.fst + s) * 320) (cellL n zs)).2) k1 hef hp' hs hff hz rfl
      exact ⟨h1, h2, h3, by rw [h4, kw], by omega, fun t ht hne => by rw [h6 t ht hne, k7 t ht hne], h7, fun he => (h8 he).imp id .inr⟩
    · rw [fill_err hbl' (by omega)]
      refine ⟨.inr h0, k1, hef, kw, by omega, k7, fun h => by omega, fun _ => ?_⟩
      right
      have hg : Grows (secL S P s) (secL (aErase S P (s : Int)).2 P s) := by rw [k6]; exact mixS_up hsb (nowM_byt hwS)
      rcases hold with ht | hw
      · exact .inr (torn_grows ht hg)
      · have hlen := sec_len' hS hp hs
        refine whole_grows hw hlen ?_ hsb ?_ hg
        · rw [k6, mixS_len]
        · rw [k6]; exact mixS_byt hsb byt_ffs (nowM_byt hwS)
/-! ### A ring into which things were put, whatever was cut -/
/-- The last one is zs, of that seq, in sector j; each other one is torn, or older. -/
structure Kept (S : Fs) (P : Pt) (j : Nat) (seq : Int) (zs : List Int) : Prop where
  ok : S.Ok
  few : Few S
  pok : P.Ok S.wear.length
  four : 4 ≤ P.cnt
  j4 : j < 4
  seq' : Seq seq
  byt : Byt zs
  on : S.off = false
  last : secL S P j = cellL seq zs
  rest : ∀ s, s < 4 → s ≠ j → Torn (secL S P s) ∨ (Whole (secL S P s) ∧ seqN (secL S P s) < seq)
theorem Kept.hd {S : Fs} {P : Pt} {j : Nat} {seq : Int} {zs : List Int} (h : Kept S P j seq zs) : hdOf S P = ⟨j, seq, rawL zs 156⟩ := by
  have hs := h.last
  have e1 : seqN (secL S P j) = seq := by rw [hs]; exact seq_cell h.seq' _
  have e2 : loadL (secL S P j) = rawL zs 156 := by rw [hs]; exact load_cell _ _
  have := hd_is h.four h.j4 (by rw [hs]; exact good_cell h.seq' _) (fun s h4 hne hg => by
    rw [e1]
    rcases h.rest s h4 hne with ht | ht
    · exact absurd hg (torn_bad (sec_len' h.ok h.pok (by have := h.four; omega)) (sec_byt h.ok P s) ht)
    · exact ht.2)
  rw [e1, e2] at this
  exact this
theorem power_sec (S : Fs) (P : Pt) (s : Nat) : secL (power S) P s = secL S P s := rfl
theorem cutAt_sec (S : Fs) (k : Nat) (m : List Int) (P : Pt) (s : Nat) : secL (cutAt S k m) P s = secL S P s := rfl
theorem Kept.cut {S : Fs} {P : Pt} {j : Nat} {seq : Int} {zs : List Int} (h : Kept S P j seq zs) (k : Nat) {m : List Int} (hm : Byt m) (hl : m.length ≤ 1000000) : Kept (cutAt S k m) P j seq zs :=
  ⟨cutAt_ok h.ok k hm hl, h.few, h.pok, h.four, h.j4, h.seq', h.byt, h.on, h.last, h.rest⟩
theorem left_pos {S : Fs} {P : Pt} (hfew : Few S) (hops : S.ops < P.bud) {s : Nat} (hs : s < P.cnt) : aLeft S P (s : Int) ≠ 0 := by
  unfold aLeft
  rw [if_pos ⟨by omega, by omega⟩]
  have := wear_few hfew ((P.fst : Int) + (s : Int))
  omega
/-- A Put, whatever is cut, and power behind it. -/
theorem Kept.put {S : Fs} {P : Pt} {j : Nat} {seq : Int} {zs : List Int} (h : Kept S P j seq zs) (hops : S.ops < P.bud) (hseq : seq ≤ 1000000) {ys : List Int} (hy : Byt ys) (hl : ys.length ≤ 156) :
    ((putR S P ys).1 = 0 ∨ (putR S P ys).1 = 4) ∧ (putR S P ys).2.ops ≤ S.ops + 2 ∧ (putR S P ys).2.wear.length = S.wear.length ∧ (putR S P ys).2.Ok ∧ Few (putR S P ys).2 ∧
      (Kept (power (putR S P ys).2) P ((j + 1) % 4) (seq + 1) ys ∨ ((putR S P ys).1 = 4 ∧ Kept (power (putR S P ys).2) P j seq zs)) := by
  have hhd := h.hd
  have hj4 := h.j4
  have h4 := h.four
  have hs1 := h.seq'.1
  have hsq : Seq (seq + 1) := ⟨by omega, by omega⟩
  have hn : (hdOf S P).next = (j + 1) % 4 := by rw [hhd]; rfl
  have ht : (j + 1) % 4 < P.cnt := by omega
  have hleft : aLeft S P (((j + 1) % 4 : Nat) : Int) ≠ 0 := left_pos h.few hops ht
  have hmay : MayP S P := ⟨by rw [hn]; exact .inr hleft, by rw [hhd]; exact hsq⟩
  rw [put_does h4 hl hmay, hn, hhd]
  have hold : Torn (secL S P ((j + 1) % 4)) ∨ Whole (secL S P ((j + 1) % 4)) := (h.rest _ (by omega) (by omega)).imp id (fun k => k.1)
  have hF := fill_filled (n := seq + 1) h.ok h.few h.pok h.on ht (.inr hleft) hold hy
  simp only [] at hF ⊢
  generalize fillS S P ((j + 1) % 4) (cellL (seq + 1) ys) = r at *
  obtain ⟨e, S'⟩ := r
  simp only [] at hF ⊢
  have hpok : P.Ok (power S').wear.length := by show P.Ok S'.wear.length; rw [hF.wear]; exact h.pok
  have hone : secL (power S') P j = secL S P j := hF.by' j (by omega) (by omega)
  have hoth : ∀ s, s < 4 → s ≠ j → s ≠ (j + 1) % 4 → secL (power S') P s = secL S P s := fun s h1 _ h3 => hF.by' s (by omega) h3
  have hnew : secL S' P ((j + 1) % 4) = cellL (seq + 1) ys → Kept (power S') P ((j + 1) % 4) (seq + 1) ys := fun hc =>
    ⟨power_ok hF.ok, few_power hF.few, hpok, h4, by omega, hsq, hy, rfl, hc, fun s h1 h2 => by
      by_cases e : s = j
      · subst e
        rw [hone, h.last]
        exact .inr ⟨put_whole _, by rw [seq_cell h.seq']; omega⟩
      · rw [hoth s h1 e h2]
        exact (h.rest s h1 e).imp id fun k => ⟨k.1, by omega⟩⟩
  refine ⟨hF.err, hF.ops, hF.wear, hF.ok, hF.few, ?_⟩
  rcases hF.err with rfl | rfl
  · exact .inl (hnew (hF.done rfl))
  · rcases hF.cut rfl with hc | hc
    · exact .inl (hnew hc)
    · refine .inr ⟨rfl, power_ok hF.ok, few_power hF.few, hpok, h4, hj4, h.seq', h.byt, rfl, hone.trans h.last, fun s h1 h2 => ?_⟩
      by_cases e : s = (j + 1) % 4
      · subst e
        rcases hc with hc | hc
        · rw [power_sec, hc]; exact h.rest _ h1 h2
        · exact .inl hc
      · rw [hoth s h1 h2 e]; exact h.rest s h1 h2
end Go.Proofs.YtcecommnpdfhgaaGreatDoor

namespace Go.Proofs.YtcecommnpdfhgaaGreatDoor
set_option linter.unusedVariables false
set_option linter.unusedSimpArgs false

/-- The seq in sector s behind i Puts. -/
def nOf (s i : Nat) : Nat := s + 1 + 4 * ((i - s - 1) / 4)
/-- How often sector s was erased behind i Puts. -/
def wOf (s i : Nat) : Nat := (i + 3 - s) / 4 - 1
/-- The rows f 0, f 1, .. were put, i of them. -/
structure Rn (S : Fs) (P : Pt) (f : Nat → List Int) (i : Nat) : Prop where
  ok : S.Ok
  few : Few S
  pok : P.Ok S.wear.length
  four : 4 ≤ P.cnt
  on : S.off = false
  nocut : S.cut = none
  ops : S.ops ≤ 2 * i
  sec : ∀ s, s < 4 → secL S P s = if s < i then cellL (nOf s i : Nat) (f (nOf s i - 1)) else ffs
  wear : ∀ s : Nat, s < 4 → wearAt S ((P.fst : Int) + (s : Int)) = (wOf s i : Nat)
/-- What is told of it. -/
def toldH (f : Nat → List Int) (i : Nat) : Hd := ⟨(i + 3) % 4, (i : Int), if i = 0 then [] else rawL (f (i - 1)) 156⟩
theorem told_next (f : Nat → List Int) (i : Nat) : (toldH f i).next = i % 4 := by
  unfold toldH Hd.next
  simp only []
  omega
theorem Rn.hd {S : Fs} {P : Pt} {f : Nat → List Int} {i : Nat} (h : Rn S P f i) (hi : i ≤ 1000000) : hdOf S P = toldH f i := by
  unfold toldH
  by_cases h0 : i = 0
  · subst h0
    rw [hd_none (fun s hs hg => ?_)]
    · rfl
    · rw [h.sec s hs, if_neg (by omega)] at hg
      exact ffs_bad hg
  · rw [if_neg h0]
    have hj : (i + 3) % 4 < 4 := by omega
    have hn : nOf ((i + 3) % 4) i = i := by unfold nOf; omega
    have hs := h.sec _ hj
    rw [if_pos (by omega), hn] at hs
    have hq : Seq ((i : Nat) : Int) := ⟨by omega, by omega⟩
    have e1 : seqN (secL S P ((i + 3) % 4)) = (i : Int) := by rw [hs]; exact seq_cell hq _
    have e2 : loadL (secL S P ((i + 3) % 4)) = rawL (f (i - 1)) 156 := by rw [hs]; exact load_cell _ _
    have := hd_is h.four hj (by rw [hs]; exact good_cell hq _) (fun s h4 hne hg => by
      rw [e1]
      have h2 := h.sec s h4
      by_cases hsi : s < i
      · rw [if_pos hsi] at h2
        have hle : nOf s i < i := by unfold nOf; omega
        have hge : 1 ≤ nOf s i := by unfold nOf; omega
        rw [h2, seq_cell ⟨by omega, by omega⟩]
        omega
      · rw [if_neg hsi] at h2
        rw [h2] at hg
        exact absurd hg ffs_bad)
    rw [e1, e2] at this
    exact this
theorem wear_same {S R : Fs} (h : R.wear = S.wear) (q : Int) : wearAt R q = wearAt S q := by
  unfold wearAt
  by_cases h1 : there S q
  · have h2 : there R q := by unfold there at *; rw [h]; exact h1
    rw [if_pos h2, if_pos h1, h]
  · have h2 : ¬ there R q := by unfold there at *; rw [h]; exact h1
    rw [if_neg h2, if_neg h1]
theorem wear_worn {S : Fs} {q t : Nat} (hq : q < S.wear.length) (ht : t < S.wear.length) : wearAt (worn S q) (t : Int) = if t = q then wearAt S (t : Int) + 1 else wearAt S (t : Int) := by
  have hl := worn_len S q
  unfold wearAt
  rw [if_pos (show there (worn S q) (t : Int) from ⟨by omega, by rw [hl]; omega⟩), if_pos (show there S (t : Int) from ⟨by omega, by omega⟩), Int.toNat_natCast]
  unfold worn
  simp only []
  rw [getD_set _ _ _ _ ht]
  by_cases e : q = t
  · rw [if_pos e, if_pos e.symm, e]
  · rw [if_neg e, if_neg (fun k => e k.symm)]
theorem Rn.sets {S R : Fs} {P : Pt} {f : Nat → List Int} {i : Nat} (h : Rn S P f i) (hR : R.Ok) (hF : Few R) (hw : R.wear.length = S.wear.length) (hoff : R.off = false) (hcut : R.cut = none) (hops : R.ops ≤ 2 * (i + 1))
    (hs : ∀ t, t < 4 → secL R P t = if t = i % 4 then cellL ((i + 1 : Nat) : Int) (f i) else secL S P t)
    (hwear : ∀ t : Nat, t < 4 → wearAt R ((P.fst : Int) + (t : Int)) = (wOf t (i + 1) : Nat)) : Rn R P f (i + 1) := by
  refine ⟨hR, hF, by rw [hw]; exact h.pok, h.four, hoff, hcut, hops, fun t ht => ?_, hwear⟩
  rw [hs t ht]
  by_cases e : t = i % 4
  · have hn : nOf t (i + 1) = i + 1 := by unfold nOf; omega
    rw [if_pos e, if_pos (by omega), hn, Nat.add_sub_cancel]
  · rw [if_neg e, h.sec t ht]
    by_cases hti : t < i
    · have hn : nOf t (i + 1) = nOf t i := by unfold nOf; omega
      rw [if_pos hti, if_pos (by omega), hn]
    · rw [if_neg hti, if_neg (by omega)]
theorem wOf_same {t i : Nat} (ht : t < 4) (h : t ≠ i % 4 ∨ i < 4) : wOf t (i + 1) = wOf t i := by
  unfold wOf
  omega
theorem wOf_more {t i : Nat} (h : t = i % 4) (h4 : 4 ≤ i) : wOf t (i + 1) = wOf t i + 1 := by
  unfold wOf
  omega
theorem Rn.blank {S : Fs} {P : Pt} {f : Nat → List Int} {i : Nat} (h : Rn S P f i) : (aBlank S P ((i % 4 : Nat) : Int) = true ↔ i < 4) := by
  have h4 := h.four
  rw [blank_is h.ok h.pok (by omega), h.sec _ (by omega)]
  by_cases hi : i < 4
  · rw [if_neg (by omega)]
    exact ⟨fun _ => hi, fun _ => rfl⟩
  · rw [if_pos (by omega)]
    exact ⟨fun hc => absurd hc cell_ffs, fun hc => absurd hc hi⟩
theorem Rn.left {S : Fs} {P : Pt} {f : Nat → List Int} {i : Nat} (h : Rn S P f i) (h4 : 4 ≤ i) : (aLeft S P ((i % 4 : Nat) : Int) ≠ 0 ↔ i < 4 * (P.bud + 1)) := by
  have hc := h.four
  have hw := h.wear (i % 4) (by omega)
  unfold aLeft
  rw [if_pos ⟨by omega, by omega⟩, hw]
  unfold wOf
  omega
theorem Rn.may {S : Fs} {P : Pt} {f : Nat → List Int} {i : Nat} (h : Rn S P f i) (hi : i ≤ 1000000) : MayP S P ↔ i < 4 * (P.bud + 1) := by
  have hb := h.blank
  unfold MayP
  rw [h.hd hi, told_next]
  have hq : Seq ((toldH f i).seq + 1) := ⟨by show (1 : Int) ≤ (i : Int) + 1; omega, by show (i : Int) + 1 ≤ 2147483647; omega⟩
  by_cases h4 : i < 4
  · exact ⟨fun _ => by omega, fun _ => ⟨.inl (hb.2 h4), hq⟩⟩
  · have hl := h.left (by omega)
    refine ⟨fun k => ?_, fun k => ⟨.inr (hl.2 k), hq⟩⟩
    rcases k.1 with k1 | k1
    · exact absurd (hb.1 k1) h4
    · exact hl.1 k1
/-- One more is put. -/
theorem Rn.step {S : Fs} {P : Pt} {f : Nat → List Int} {i : Nat} (h : Rn S P f i) (hi : i ≤ 100000) (hm : i < 4 * (P.bud + 1)) (hb : Byt (f i)) (hl : (f i).length ≤ 156) :
    (putR S P (f i)).1 = 0 ∧ (putR S P (f i)).2.wear.length = S.wear.length ∧ Rn (putR S P (f i)).2 P f (i + 1) := by
  have h4 := h.four
  have hw := h.pok.in'
  have hcb := cell_byt ((i + 1 : Nat) : Int) hb
  have hcl := cell_len ((i + 1 : Nat) : Int) (f i)
  have ht : i % 4 < P.cnt := by omega
  rw [put_does h4 hl ((h.may (by omega)).2 hm), h.hd (by omega), told_next, show (toldH f i).seq + 1 = ((i + 1 : Nat) : Int) by show (i : Int) + 1 = _; omega]
  by_cases hi4 : i < 4
  · have hbl := h.blank.2 hi4
    have hff := (blank_is h.ok h.pok ht).1 hbl
    rw [fill_blank hbl, prog_blank h.ok h.pok h.on ht hff hcb hcl]
    have k0 := work_cut (S := S) ((P.fst + i % 4) * 320) (cellL ((i + 1 : Nat) : Int) (f i)) h.nocut
    have kw := work_wear S ((P.fst + i % 4) * 320) (cellL ((i + 1 : Nat) : Int) (f i))
    refine ⟨k0.1, by rw [kw.1], h.sets (work_ok h.ok _ hcb) (few_work h.few _ _) (by rw [kw.1]) (by rw [k0.2.1, h.on]) k0.2.2.1 (by rw [kw.2]; have := h.ops; omega) (fun t ht' => ?_) (fun t ht' => ?_)⟩
    · rw [work_sec h.ok h.pok ht hcb hcl (by omega), k0.2.2.2, hff, mixS_none byt_ffs hcb hcl]
    · rw [wear_same kw.1, h.wear t ht', wOf_same ht' (.inr hi4)]
  · have hbl : aBlank S P ((i % 4 : Nat) : Int) = false := by
      cases hx : aBlank S P ((i % 4 : Nat) : Int)
      · rfl
      · exact absurd (h.blank.1 hx) hi4
    have hleft := (h.left (by omega)).2 hm
    have he := erase_is h.pok h.on ht hleft
    have hwS := worn_ok h.ok (P.fst + i % 4)
    have hwp : P.Ok (worn S (P.fst + i % 4)).wear.length := by rw [worn_len]; exact h.pok
    have k0 := work_cut (S := worn S (P.fst + i % 4)) ((P.fst + i % 4) * 320) ffs h.nocut
    have kw := work_wear (worn S (P.fst + i % 4)) ((P.fst + i % 4) * 320) ffs
    have k1 := work_ok hwS ((P.fst + i % 4) * 320) byt_ffs
    have k4 := fun t (ht' : t < P.cnt) => work_sec hwS hwp ht byt_ffs ffs_len ht'
    have kf : Few (aErase S P ((i % 4 : Nat) : Int)).2 := few_aErase h.few P _
    rw [← he] at k0 kw k1
    simp only [← he] at k4
    rw [fill_two hbl k0.1]
    generalize aErase S P ((i % 4 : Nat) : Int) = r at *
    obtain ⟨e, R⟩ := r
    simp only [] at k0 kw k1 k4 kf ⊢
    have hff : secL R P (i % 4) = ffs := by rw [k4 _ ht, if_pos rfl, k0.2.2.2]; exact mixS_none (sec_byt hwS P _) byt_ffs ffs_len
    have kwl : R.wear.length = S.wear.length := by rw [kw.1, worn_len]
    have hRp : P.Ok R.wear.length := by rw [kwl]; exact h.pok
    have hRo : R.off = false := k0.2.1.trans h.on
    rw [prog_blank k1 hRp hRo ht hff hcb hcl]
    have j0 := work_cut (S := R) ((P.fst + i % 4) * 320) (cellL ((i + 1 : Nat) : Int) (f i)) k0.2.2.1
    have jw := work_wear R ((P.fst + i % 4) * 320) (cellL ((i + 1 : Nat) : Int) (f i))
    have hops : R.ops = S.ops + 1 := kw.2
    refine ⟨j0.1, by rw [jw.1, kwl], h.sets (work_ok k1 _ hcb) (few_work kf _ _) (by rw [jw.1, kwl]) (by rw [j0.2.1, hRo]) j0.2.2.1 (by rw [jw.2]; have := h.ops; omega) (fun t ht' => ?_) (fun t ht' => ?_)⟩
    · rw [work_sec k1 hRp ht hcb hcl (by omega), j0.2.2.2, hff, mixS_none byt_ffs hcb hcl]
      by_cases e : t = i % 4
      · rw [if_pos e, if_pos e]
      · rw [if_neg e, if_neg e, k4 t (by omega), if_neg e]
        rfl
    · rw [wear_same jw.1, wear_same kw.1, show (P.fst : Int) + (t : Int) = ((P.fst + t : Nat) : Int) by omega, wear_worn (by omega) (by omega), show ((P.fst + t : Nat) : Int) = (P.fst : Int) + (t : Int) by omega, h.wear t ht']
      by_cases e : t = i % 4
      · rw [if_pos (by omega), wOf_more e (by omega)]
        omega
      · rw [if_neg (by omega), wOf_same ht' (.inl e)]
/-- All is worn out. -/
theorem Rn.stop {S : Fs} {P : Pt} {f : Nat → List Int} {i : Nat} (h : Rn S P f i) (hi : i ≤ 100000) (hm : ¬ i < 4 * (P.bud + 1)) {ys : List Int} (hl : ys.length ≤ 156) : putR S P ys = (5, S) :=
  put_worn h.four hl fun k => hm ((h.may (by omega)).1 k)
theorem fresh_secs {n : Nat} (hn : n ≤ 400) {P : Pt} (hp : P.Ok n) {s : Nat} (hs : s < P.cnt) : secL (fresh n) P s = ffs := by
  have hl : (fresh n).wear.length = n := List.length_replicate
  have h1 := hp.in'
  refine list_eq (by rw [sec_len' (fresh_ok hn) (by rw [hl]; exact hp) hs, ffs_len]) fun j hj => ?_
  rw [sec_len' (fresh_ok hn) (by rw [hl]; exact hp) hs] at hj
  rw [sec_at (fresh_ok hn) (by rw [hl]; exact hp) hs hj, ffs_at hj]
  show (List.replicate (320 * n) (255 : Int)).getD _ 0 = 255
  rw [List.getD_eq_getElem?_getD, List.getElem?_replicate, if_pos (by omega)]
  rfl
theorem Rn.zero {n : Nat} (hn : n ≤ 400) {P : Pt} (hp : P.Ok n) (h4 : 4 ≤ P.cnt) (f : Nat → List Int) : Rn (fresh n) P f 0 := by
  have hl : (fresh n).wear.length = n := List.length_replicate
  have h1 := hp.in'
  refine ⟨fresh_ok hn, few_fresh n, by rw [hl]; exact hp, h4, rfl, rfl, by simp [fresh], fun s hs => by rw [if_neg (by omega)]; exact fresh_secs hn hp (by omega), fun s hs => ?_⟩
  unfold wearAt
  rw [if_pos ⟨by omega, by rw [hl]; omega⟩]
  show (List.replicate n (0 : Int)).getD _ 0 = _
  rw [List.getD_eq_getElem?_getD, List.getElem?_replicate]
  unfold wOf
  rw [show (0 + 3 - s) / 4 - 1 = 0 by omega]
  split <;> rfl
/-- Behind the first Put what is kept is as P1102 wants it. -/
theorem Rn.kept {S : Fs} {P : Pt} {f : Nat → List Int} {i : Nat} (h : Rn S P f i) (h1 : 1 ≤ i) (hi : i ≤ 100000) (hb : Byt (f (i - 1))) : Kept S P ((i + 3) % 4) (i : Int) (f (i - 1)) := by
  have hn : nOf ((i + 3) % 4) i = i := by unfold nOf; omega
  refine ⟨h.ok, h.few, h.pok, h.four, by omega, ⟨by omega, by omega⟩, hb, h.on, ?_, fun s h4 hne => ?_⟩
  · rw [h.sec _ (by omega), if_pos (by omega), hn]
  · rw [h.sec s h4]
    by_cases hsi : s < i
    · rw [if_pos hsi]
      have hle : nOf s i < i := by unfold nOf; omega
      have hge : 1 ≤ nOf s i := by unfold nOf; omega
      exact .inr ⟨put_whole _, by rw [seq_cell ⟨by omega, by omega⟩]; omega⟩
    · rw [if_neg hsi]
      exact .inl torn_ffs
end Go.Proofs.YtcecommnpdfhgaaGreatDoor

namespace Go.Proofs.YtcecommnpdfhgaaGreatDoor
open Go.RowKit
set_option linter.unusedVariables false
set_option linter.unusedSimpArgs false

theorem fill_wears (S : Fs) (P : Pt) (s : Nat) (c : List Int) : (fillS S P s c).2.wear.length = S.wear.length ∧ (fillS S P s c).2.ops ≤ S.ops + 2 := by
  have h1 := aErase_wears S P (s : Int)
  have h2 := aProg_wears S P (s : Int) 0 c
  have h3 := aProg_wears (aErase S P (s : Int)).2 P (s : Int) 0 c
  unfold fillS
  split
  · exact ⟨h2.1, by omega⟩
  · split
    · exact ⟨h1.1, by omega⟩
    · exact ⟨h3.1.trans h1.1, by omega⟩
theorem few_fill {S : Fs} (h : Few S) (P : Pt) (s : Nat) (c : List Int) : Few (fillS S P s c).2 := by
  unfold fillS
  split
  · exact few_aProg h _ _ _ _
  · split
    · exact few_aErase h _ _
    · exact few_aProg (few_aErase h _ _) _ _ _ _
theorem put_wears (S : Fs) (P : Pt) (zs : List Int) : (putR S P zs).2.wear.length = S.wear.length ∧ (putR S P zs).2.ops ≤ S.ops + 2 := by
  have h := fill_wears S P (hdOf S P).next (cellL ((hdOf S P).seq + 1) zs)
  unfold putR
  split
  · exact ⟨rfl, by simp only []; omega⟩
  · split
    · exact ⟨rfl, by simp only []; omega⟩
    · split
      · exact ⟨rfl, by simp only []; omega⟩
      · exact h
theorem few_put {S : Fs} (hf : Few S) (P : Pt) (zs : List Int) : Few (putR S P zs).2 := by
  have h := few_fill hf P (hdOf S P).next (cellL ((hdOf S P).seq + 1) zs)
  unfold putR
  split
  · exact hf
  · split
    · exact hf
    · split
      · exact hf
      · exact h
/-- A ring of the law's own. -/
structure Rg (w0 w : World) (T x g m k : Nat) (S : Fs) (P : Pt) : Prop where
  ar : Ar w x g P
  fl : Fl w T g m k S
  nin : ¬ In3 g m k x
  hx : w0.heap.size ≤ x
  hg : w0.heap.size ≤ g
  hm : w0.heap.size ≤ m
  hk : w0.heap.size ≤ k
  bel : Below w0.heap.size w0 w
  pok : P.Ok S.wear.length
  few : Few S
theorem Rg.kept {w0 w w' : World} {T x g m k : Nat} {S : Fs} {P : Pt} (h : Rg w0 w T x g m k S P) (b : Below w.heap.size w w') : Rg w0 w' T x g m k S P :=
  ⟨h.ar.kept b, h.fl.kept b, h.nin, h.hx, h.hg, h.hm, h.hk, h.bel.trans (b.mono h.bel.size), h.pok, h.few⟩
theorem Rg.lit {w0 w : World} {T x g m k : Nat} {S : Fs} {P : Pt} (h : Rg w0 w T x g m k S P) (o : Obj) : Rg w0 (w.alloc o) T x g m k S P := h.kept ((Below.refl _ w).alloc (Nat.le_refl _) o)
theorem Rg.drew {w0 w : World} {T x g m k : Nat} {S : Fs} {P : Pt} (h : Rg w0 w T x g m k S P) : Rg w0 w.drew T x g m k S P := h.kept (Below.refl _ w).drew
theorem Rg.to {w0 w w' : World} {T x g m k : Nat} {S S' : Fs} {P : Pt} (h : Rg w0 w T x g m k S P) (t : FlTo T g m k S' w w') (hw : S'.wear.length = S.wear.length) (hf : Few S') : Rg w0 w' T x g m k S' P :=
  ⟨Has.only h.ar t.2 h.nin, t.1, h.nin, h.hx, h.hg, h.hm, h.hk, h.bel.trans (t.2.to_below h.bel.size (by rintro b (rfl | rfl | rfl); exact h.hg; exact h.hm; exact h.hk)), by rw [hw]; exact h.pok, hf⟩
/-- What a Put leaves. -/
def PutTo (w0 : World) (T x g m k : Nat) (S : Fs) (P : Pt) (zs : List Int) (w : World) (e : Ending) (w' : World) : Prop :=
  e = .returned (.int .i64 (putR S P zs).1) ∧ Rg w0 w' T x g m k (putR S P zs).2 P ∧ Only (In3 g m k) w w'
theorem rg_put {w0 w : World} {T x g m k : Nat} {S : Fs} {P : Pt} (h : Rg w0 w T x g m k S P) (hops : S.ops ≤ 999999) {A : Option Addr} {n : Nat} (z : Nat) {zs : List Int} (hr : Row w A n zs) :
    Calls Tryz.prog 10 #[.pointer (some ⟨x, 0, none⟩), .slice A n z] w (PutTo w0 T x g m k S P zs w) :=
  (put_ring A n z zs w h.ar h.nin h.fl h.few hops h.pok hr).mono fun e w' ⟨he, t⟩ => ⟨he, h.to t (put_wears S P zs).1 (few_put h.few P zs), t.2⟩
theorem rg_last {w0 w : World} {T x g m k : Nat} {S : Fs} {P : Pt} (h : Rg w0 w T x g m k S P) : Calls Tryz.prog 20 #[.pointer (some ⟨x, 0, none⟩)] w (Lasts (hdOf S P) w) := last_any w h.ar h.fl h.pok
theorem rg_next {w0 w : World} {T x g m k : Nat} {S : Fs} {P : Pt} (h : Rg w0 w T x g m k S P) : Calls Tryz.prog 22 #[.pointer (some ⟨x, 0, none⟩)] w fun e w' => e = .returned (.int .i64 ((hdOf S P).next : Int)) ∧ Below w.heap.size w w' := nexts_any w h.ar h.fl h.pok
theorem rg_may {w0 w : World} {T x g m k : Nat} {S : Fs} {P : Pt} (h : Rg w0 w T x g m k S P) (hops : S.ops ≤ 1000000) : Calls Tryz.prog 24 #[.pointer (some ⟨x, 0, none⟩)] w fun e w' => e = .returned (.bool (mayR S P)) ∧ Below w.heap.size w w' := mays_any w h.ar h.fl h.few hops h.pok
theorem lnum_any (n : Int) (w : World) : Calls Tryz.prog 9 #[.int .i64 n] w fun e w' => e = .returned (.int .i64 n) ∧ w = w' := by
  go_enter Tryz.func9, Tryz.ntmps9
  go_wp2
  go_ret
  exact ⟨rfl, rfl⟩
theorem rg_len (n : Nat) : (fresh n).wear.length = n := List.length_replicate
theorem made4 {b : Int} (h : 0 ≤ b ∧ b ≤ 1000) : Pt.made 4 0 4 b = ⟨0, 4, b.toNat⟩ := by
  unfold Pt.made
  rw [if_pos (by omega), show min (max b 0) 1000 = b by omega]
  rfl
/-- A ring of four sectors that is new. -/
theorem rg_made {w0 w1 w2 : World} {g m k x : Nat} {b : Int} (hb : 0 ≤ b ∧ b ≤ 1000) (hg : w0.heap.size ≤ g) (hm : w0.heap.size ≤ m) (hk : w0.heap.size ≤ k) (f1 : Fl w1 w1.heap.size g m k (fresh 4)) (b1 : Below w0.heap.size w0 w1)
    (hx : w1.heap.size ≤ x) (a2 : Ar w2 x g ⟨0, 4, b.toNat⟩) (b2 : Below w1.heap.size w1 w2) : Rg w0 w2 w1.heap.size x g m k (fresh 4) ⟨0, 4, b.toNat⟩ :=
  ⟨a2, f1.kept b2, fun e => by have := f1.lt e; omega, by have := b1.size; omega, hg, hm, hk, b1.trans (b2.mono b1.size), by rw [rg_len]; exact ⟨by simp, by omega, by simp only []; omega⟩, few_fresh 4⟩
theorem rn_made {b : Int} (hb : 0 ≤ b ∧ b ≤ 1000) (f : Nat → List Int) : Rn (fresh 4) ⟨0, 4, b.toNat⟩ f 0 := Rn.zero (by omega) ⟨by simp, by omega, by simp only []; omega⟩ (by simp) f
theorem sect4 : sect 4 = 4 := rfl
theorem i64_of {a : Int} (h : -1000000 ≤ a ∧ a ≤ 1000000) : I64 a := ⟨by omega, by omega⟩
theorem row_new (w : World) {x : Int} (hx : 0 ≤ x ∧ x ≤ 255) : Row (w.alloc (.cells #[.int .u8 x] 5)) (some ⟨w.heap.size, 0, none⟩) 1 [x] := row_text w [x] (fun y hy => by simp at hy; omega) 1 rfl (0, 0)
set_option maxRecDepth 100000 in
set_option maxHeartbeats 1000000 in
theorem alive_any (w : World) : Calls Tryz.prog 4 #[] w fun e w' => e = .returned (.bool true) ∧ Below w.heap.size w w' := by
  have hn := Lib.hid (new_any 4 w)
  have r0 := rn_made (b := 3) (by omega) (fun _ => [120])
  have s1 := r0.step (by omega) (by decide) (fun y hy => by simp at hy; omega) (by simp)
  have h0 := r0.hd (by omega)
  have h1 := s1.2.2.hd (by omega)
  have N1 := Lib.hid h1
  have E1 := Lib.hid s1.1
  have N0 := Lib.hid h0
  have O0 := Lib.hid (show (fresh 4).ops ≤ 999999 by simp [fresh])
  clear r0 s1 h0 h1
  go_enter Tryz.func4, Tryz.ntmps4
  go_wp2_with (first
    | (go_at_call 5; (with_reducible refine hn.out.mono ?_); rintro e w1 ⟨g, m, k, rfl, hg, hm, hk, f1, b1⟩; rw [sect4] at f1; have HN := newArea_any 0 0 4 3 w1 f1 ⟨i64_of (by omega), i64_of (by omega), i64_of (by omega)⟩; rw [rg_len, made4 (by omega)] at HN; unfold capCells at HN)
    | (go_at_call 7; (with_reducible refine HN.mono ?_); rintro e w2 ⟨x, rfl, hx, a2, b2⟩; clear HN; have R2 := Lib.hid (rg_made (b := 3) (by omega) hg hm hk f1 b1 hx a2 b2); have HL1 := Lib.hid (rg_last R2.out); rw [N0.out] at HL1; clear hg hm hk f1 b1 hx a2 b2 hn)
    | (go_at_call 20; (with_reducible refine HL1.out.mono ?_); rintro e w3 ⟨v3, rfl, o3, b3⟩; clear HL1; have hcv := Lib.run_convert_bytes_const (P := Tryz.prog) w3 34 5 #[.int .u8 120] 1 1 Tryz.underlying34 Tryz.underlying5; have R3 := Lib.hid ((R2.out.kept b3).lit (.cells #[.int .u8 120] 5 (1, 2))); have HP := Lib.hid (rg_put R3.out O0.out 1 (row_text w3 [120] (fun y hy => by simp at hy; omega) 1 rfl (1, 2))); clear R2 o3 b3)
    | (go_at_call 10; (with_reducible refine HP.out.mono ?_); rintro e w4 ⟨rfl, R4', _⟩; clear HP R3 hcv; have R4 := Lib.hid R4'; rw [E1.out]; have HL2 := Lib.hid (rg_last R4.out); rw [N1.out] at HL2; clear R4')
    | (go_at_call 20; (with_reducible refine HL2.out.mono ?_); rintro e w5 ⟨v5, rfl, o5, b5⟩; clear HL2 o5; have R5 := Lib.hid (R4.out.kept b5); have HX := Lib.hid (rg_next R5.out); rw [N1.out] at HX; clear b5)
    | (go_at_call 9; (with_reducible refine (lnum_any _ _).mono ?_); rintro e w6 ⟨rfl, rfl⟩)
    | (go_at_call 22; (with_reducible refine HX.out.mono ?_); rintro e w7 ⟨rfl, b7⟩; have R7 := Lib.hid (R5.out.kept b7)))
  go_ret
  exact ⟨rfl, R7.out.bel⟩
end Go.Proofs.YtcecommnpdfhgaaGreatDoor

namespace Go.Proofs.YtcecommnpdfhgaaGreatDoor
open Go.RowKit
set_option linter.unusedVariables false
set_option linter.unusedSimpArgs false

set_option maxRecDepth 100000 in
set_option maxHeartbeats 1000000 in
theorem rmay_any {T x g m k : Nat} {S : Fs} {P : Pt} (w : World) (ha : Rar w x g P) (hf : Rl w T g m k S) (hfew : Few S) (hops : S.ops ≤ 1000000) (hp : P.Ok S.wear.length) :
    Calls Tryz.prog 25 #[.pointer (some ⟨x, 0, none⟩)] w fun e w' => e = .returned (.bool (mayR S P)) ∧ Below w.heap.size w w' := by
  have HNx := Lib.hid (rnext_any w ha hf hp)
  have HA := Lib.hid ha
  have HF := Lib.hid hf
  have HP := Lib.hid hp
  have hq := hd_seq S P
  clear ha hf hp
  by_cases hc : 4 ≤ P.cnt
  · rw [mayR_yes hc]
    have c4 : (4 : Int) ≤ (P.cnt : Int) := by omega
    by_cases hs : (hdOf S P).seq < 2147483647
    · have hsq : Seq ((hdOf S P).seq + 1) := ⟨by omega, by omega⟩
      by_cases hbl : aBlank S P ((hdOf S P).next : Int) = true
      · rw [may_yes ⟨.inl hbl, hsq⟩]
        clear hsq hq hc
        go_enter Tryz.func25, Tryz.ntmps25
        go_wp2_with (first
          | (go_at_call 23; (with_reducible refine HNx.out.mono ?_); rintro e w1 ⟨rfl, H1⟩; clear HNx; have HFi := Lib.hid (rfind_any w1 (HA.out.kept H1) (HF.out.kept H1) HP.out))
          | (go_at_call 39; (with_reducible refine HFi.out.mono ?_); rintro e w2 ⟨v2, rfl, o2, H2⟩; clear HFi o2; have b2 := Lib.hid (belowThen H1 H2); obtain ⟨_, _, cc, _⟩ := ra_cells (HA.out.kept b2.out); have HBl := Lib.hid (rablank_any ((hdOf S P).next : Int) w2 (HA.out.kept b2.out) (HF.out.kept b2.out) HP.out); rw [hbl] at HBl)
          | (go_at_call 41; (with_reducible refine HBl.out.mono ?_); rintro e w3 ⟨rfl, H3⟩; clear HBl; have b3 := Lib.hid (belowThen b2.out H3)))
        go_ret
        exact ⟨rfl, b3.out⟩
      · replace hbl : aBlank S P ((hdOf S P).next : Int) = false := by simpa using hbl
        have hge : 0 ≤ aLeft S P ((hdOf S P).next : Int) := by unfold aLeft; split <;> omega
        by_cases hl : aLeft S P ((hdOf S P).next : Int) = 0
        · rw [may_no (fun h => h.1.elim (fun h => by rw [hbl] at h; cases h) (fun h => h hl))]
          have hl0 : ¬ 0 < aLeft S P ((hdOf S P).next : Int) := by omega
          clear hsq hq hc hge
          go_enter Tryz.func25, Tryz.ntmps25
          go_wp2_with (first
            | (go_at_call 23; (with_reducible refine HNx.out.mono ?_); rintro e w1 ⟨rfl, H1⟩; clear HNx; have HFi := Lib.hid (rfind_any w1 (HA.out.kept H1) (HF.out.kept H1) HP.out))
            | (go_at_call 39; (with_reducible refine HFi.out.mono ?_); rintro e w2 ⟨v2, rfl, o2, H2⟩; clear HFi o2; have b2 := Lib.hid (belowThen H1 H2); obtain ⟨_, _, cc, _⟩ := ra_cells (HA.out.kept b2.out); have HBl := Lib.hid (rablank_any ((hdOf S P).next : Int) w2 (HA.out.kept b2.out) (HF.out.kept b2.out) HP.out); rw [hbl] at HBl)
            | (go_at_call 41; (with_reducible refine HBl.out.mono ?_); rintro e w3 ⟨rfl, H3⟩; clear HBl; have b3 := Lib.hid (belowThen b2.out H3); have HLf := Lib.hid (rleft_any ((hdOf S P).next : Int) w3 (HA.out.kept b3.out) (HF.out.kept b3.out) hfew hops HP.out))
            | (go_at_call 50; (with_reducible refine HLf.out.mono ?_); rintro e w4 ⟨rfl, H4⟩; clear HLf; have b4 := Lib.hid (belowThen b3.out H4)))
          go_ret
          exact ⟨rfl, b4.out⟩
        · rw [may_yes ⟨.inr hl, hsq⟩]
          have hl0 : 0 < aLeft S P ((hdOf S P).next : Int) := by omega
          clear hsq hq hc hge hl
          go_enter Tryz.func25, Tryz.ntmps25
          go_wp2_with (first
            | (go_at_call 23; (with_reducible refine HNx.out.mono ?_); rintro e w1 ⟨rfl, H1⟩; clear HNx; have HFi := Lib.hid (rfind_any w1 (HA.out.kept H1) (HF.out.kept H1) HP.out))
            | (go_at_call 39; (with_reducible refine HFi.out.mono ?_); rintro e w2 ⟨v2, rfl, o2, H2⟩; clear HFi o2; have b2 := Lib.hid (belowThen H1 H2); obtain ⟨_, _, cc, _⟩ := ra_cells (HA.out.kept b2.out); have HBl := Lib.hid (rablank_any ((hdOf S P).next : Int) w2 (HA.out.kept b2.out) (HF.out.kept b2.out) HP.out); rw [hbl] at HBl)
            | (go_at_call 41; (with_reducible refine HBl.out.mono ?_); rintro e w3 ⟨rfl, H3⟩; clear HBl; have b3 := Lib.hid (belowThen b2.out H3); have HLf := Lib.hid (rleft_any ((hdOf S P).next : Int) w3 (HA.out.kept b3.out) (HF.out.kept b3.out) hfew hops HP.out))
            | (go_at_call 50; (with_reducible refine HLf.out.mono ?_); rintro e w4 ⟨rfl, H4⟩; clear HLf; have b4 := Lib.hid (belowThen b3.out H4)))
          go_ret
          exact ⟨rfl, b4.out⟩
    · rw [may_no (fun h => by have := h.2.2; omega)]
      clear hq hc
      go_enter Tryz.func25, Tryz.ntmps25
      go_wp2_with (first
        | (go_at_call 23; (with_reducible refine HNx.out.mono ?_); rintro e w1 ⟨rfl, H1⟩; clear HNx; have HFi := Lib.hid (rfind_any w1 (HA.out.kept H1) (HF.out.kept H1) HP.out))
        | (go_at_call 39; (with_reducible refine HFi.out.mono ?_); rintro e w2 ⟨v2, rfl, o2, H2⟩; clear HFi o2; have b2 := Lib.hid (belowThen H1 H2); obtain ⟨_, _, cc, _⟩ := ra_cells (HA.out.kept b2.out); skip))
      go_ret
      exact ⟨rfl, b2.out⟩
  · rw [mayR_no hc]
    have c4 : ¬ (4 : Int) ≤ (P.cnt : Int) := by omega
    clear hq hc
    go_enter Tryz.func25, Tryz.ntmps25
    go_wp2_with (first
      | (go_at_call 23; (with_reducible refine HNx.out.mono ?_); rintro e w1 ⟨rfl, H1⟩; clear HNx; have HFi := Lib.hid (rfind_any w1 (HA.out.kept H1) (HF.out.kept H1) HP.out))
      | (go_at_call 39; (with_reducible refine HFi.out.mono ?_); rintro e w2 ⟨v2, rfl, o2, H2⟩; clear HFi o2; have b2 := Lib.hid (belowThen H1 H2); obtain ⟨_, _, cc, _⟩ := ra_cells (HA.out.kept b2.out); skip))
    go_ret
    exact ⟨rfl, b2.out⟩
theorem Rl.lt {w : World} {T g m k : Nat} {S : Fs} (h : Rl w T g m k S) {b : Nat} (hb : In3 g m k b) : b < w.heap.size := by
  obtain ⟨_, _, _, _, _, a, _⟩ := h
  rcases hb with rfl | rfl | rfl
  · exact a.str.size
  · exact a.mem.size
  · exact a.wear.size
set_option maxRecDepth 100000 in
set_option maxHeartbeats 1000000 in
theorem rput_ring {T x g m k : Nat} {S : Fs} {P : Pt} (A : Option Addr) (n z : Nat) (zs : List Int) (w : World) (ha : Rar w x g P) (hx : ¬ In3 g m k x) (hf : Rl w T g m k S) (hfew : Few S) (hops : S.ops ≤ 999999) (hp : P.Ok S.wear.length) (hr : Row w A n zs) :
    Calls Tryz.prog 11 #[.pointer (some ⟨x, 0, none⟩), .slice A n z] w fun e w' => e = .returned (.int .i64 (putR S P zs).1) ∧ RlTo T g m k (putR S P zs).2 w w' := by
  have HLe := Lib.hid (ralen_any w ha)
  have HMy := Lib.hid (rmay_any w ha hf hfew (by omega) hp)
  have HA := Lib.hid ha
  have HF := Lib.hid hf
  have HP := Lib.hid hp
  have HR := Lib.hid hr
  have HX := Lib.hid hx
  have hl := hr.1
  clear ha hf hp hr hx
  by_cases hc : 4 ≤ P.cnt
  · have c4 : ¬ (P.cnt : Int) < 4 := by omega
    by_cases hn : 156 < n
    · rw [put_long hc (by omega)]
      have i1 : (156 : Int) < (n : Int) := by omega
      clear hc hl hn
      go_enter Tryz.func11, Tryz.ntmps11
      go_wp2_with (first
        | (go_at_call 38; (with_reducible refine HLe.out.mono ?_); rintro e w0 ⟨rfl, rfl⟩; clear HLe))
      go_ret
      exact ⟨rfl, HF.out, Only.refl _ _⟩
    · have i1 : ¬ (156 : Int) < (n : Int) := by omega
      have hseq := hd_seq S P
      have q1 : IntKind.i64.wrap ((hdOf S P).seq + 1) = (hdOf S P).seq + 1 := by rw [IntKind.wrap_i64]; omega
      rw [mayR_yes hc] at HMy
      by_cases hm : MayP S P
      · rw [put_does hc (by omega) hm]
        rw [may_yes hm] at HMy
        have HErr := Lib.hid (err_none (len := n) hm.2 (by omega))
        have HOut := Lib.hid (out_some (zs := zs) (len := n) hm.2 (by omega))
        clear hc hm hl hn hseq
        by_cases hbl : aBlank S P ((hdOf S P).next : Int) = true
        · rw [fill_blank hbl]
          go_enter Tryz.func11, Tryz.ntmps11
          go_wp2_with (first
            | (go_at_call 38; (with_reducible refine HLe.out.mono ?_); rintro e w0 ⟨rfl, rfl⟩; clear HLe)
            | (go_at_call 25; (with_reducible refine HMy.out.mono ?_); rintro e w1 ⟨rfl, H1⟩; clear HMy; have HFi := Lib.hid (rfind_any w1 (HA.out.kept H1) (HF.out.kept H1) HP.out))
            | (go_at_call 39; (with_reducible refine HFi.out.mono ?_); rintro e w2 ⟨v2, rfl, o2, H2⟩; clear HFi; obtain ⟨A2, z2, rfl, _, _, _⟩ := o2.form; clear o2; have b2 := Lib.hid (belowThen H1 H2); have HNx := Lib.hid (rnext_any w2 (HA.out.kept b2.out) (HF.out.kept b2.out) HP.out))
            | (go_at_call 23; (with_reducible refine HNx.out.mono ?_); rintro e w3 ⟨rfl, H3⟩; clear HNx; have b3 := Lib.hid (belowThen b2.out H3); have HPt := Lib.hid (rcput_any ((hdOf S P).seq + 1) A n z zs w3 (row_below b3.out HR.out)); rw [HErr.out, HOut.out] at HPt)
            | (go_at_call 40; (with_reducible refine HPt.out.mono ?_); rintro e w4 ⟨v4, rfl, o4, H4⟩; clear HPt; rw [cell_len] at o4; obtain ⟨A4, z4, rfl, _, r4, k4⟩ := o4.form; clear o4; have b4 := Lib.hid (belowThen b3.out H4); have HR4 := Lib.hid r4; have HK4 := Lib.hid (show Clear g m k A4 320 from .inr (fun y hy hin => by have h1 := (k4 y hy).1; have h2 := (HF.out.kept b3.out).lt hin; omega)); clear r4 k4; have HBl := Lib.hid (rablank_any ((hdOf S P).next : Int) w4 (HA.out.kept b4.out) (HF.out.kept b4.out) HP.out); rw [hbl] at HBl)
            | (go_at_call 41; (with_reducible refine HBl.out.mono ?_); rintro e w5 ⟨rfl, H5⟩; clear HBl; have b5 := Lib.hid (belowThen b4.out H5); have HPr := Lib.hid (raprogram_any ((hdOf S P).next : Int) 0 A4 320 z4 (cellL ((hdOf S P).seq + 1) zs) w5 (HA.out.kept b5.out) (HF.out.kept b5.out) HP.out ⟨by omega, by omega⟩ (row_below H5 HR4.out) (by omega) HK4.out (by omega)))
            | (go_at_call 43; (with_reducible refine HPr.out.mono ?_); rintro e w7 ⟨rfl, H7⟩))
          go_ret
          exact ⟨rfl, H7.1, (Only.of_below b5.out).trans H7.2⟩
        · replace hbl : aBlank S P ((hdOf S P).next : Int) = false := by simpa using hbl
          by_cases he : (aErase S P ((hdOf S P).next : Int)).1 = 0
          · rw [fill_two hbl he]
            go_enter Tryz.func11, Tryz.ntmps11
            go_wp2_with (first
              | (go_at_call 38; (with_reducible refine HLe.out.mono ?_); rintro e w0 ⟨rfl, rfl⟩; clear HLe)
              | (go_at_call 25; (with_reducible refine HMy.out.mono ?_); rintro e w1 ⟨rfl, H1⟩; clear HMy; have HFi := Lib.hid (rfind_any w1 (HA.out.kept H1) (HF.out.kept H1) HP.out))
              | (go_at_call 39; (with_reducible refine HFi.out.mono ?_); rintro e w2 ⟨v2, rfl, o2, H2⟩; clear HFi; obtain ⟨A2, z2, rfl, _, _, _⟩ := o2.form; clear o2; have b2 := Lib.hid (belowThen H1 H2); have HNx := Lib.hid (rnext_any w2 (HA.out.kept b2.out) (HF.out.kept b2.out) HP.out))
              | (go_at_call 23; (with_reducible refine HNx.out.mono ?_); rintro e w3 ⟨rfl, H3⟩; clear HNx; have b3 := Lib.hid (belowThen b2.out H3); have HPt := Lib.hid (rcput_any ((hdOf S P).seq + 1) A n z zs w3 (row_below b3.out HR.out)); rw [HErr.out, HOut.out] at HPt)
              | (go_at_call 40; (with_reducible refine HPt.out.mono ?_); rintro e w4 ⟨v4, rfl, o4, H4⟩; clear HPt; rw [cell_len] at o4; obtain ⟨A4, z4, rfl, _, r4, k4⟩ := o4.form; clear o4; have b4 := Lib.hid (belowThen b3.out H4); have HR4 := Lib.hid r4; have HK4 := Lib.hid (show Clear g m k A4 320 from .inr (fun y hy hin => by have h1 := (k4 y hy).1; have h2 := (HF.out.kept b3.out).lt hin; omega)); clear r4 k4; have HBl := Lib.hid (rablank_any ((hdOf S P).next : Int) w4 (HA.out.kept b4.out) (HF.out.kept b4.out) HP.out); rw [hbl] at HBl)
              | (go_at_call 41; (with_reducible refine HBl.out.mono ?_); rintro e w5 ⟨rfl, H5⟩; clear HBl; have b5 := Lib.hid (belowThen b4.out H5); have HE := Lib.hid (raerase_any ((hdOf S P).next : Int) w5 (HA.out.kept b5.out) (HF.out.kept b5.out) hfew (by omega) HP.out))
              | (go_at_call 42; (with_reducible refine HE.out.mono ?_); rintro e w6 ⟨rfl, H6⟩; clear HE; have HPr := Lib.hid (raprogram_any ((hdOf S P).next : Int) 0 A4 320 z4 (cellL ((hdOf S P).seq + 1) zs) w6 ((HA.out.kept b5.out).only H6.2 HX.out) H6.1 (by rw [(aErase_wears _ _ _).1]; exact HP.out) ⟨by omega, by omega⟩ (row_clear (row_below H5 HR4.out) H6.2 HK4.out) (by omega) HK4.out (by have := (aErase_wears S P ((hdOf S P).next : Int)).2; omega)))
              | (go_at_call 43; (with_reducible refine HPr.out.mono ?_); rintro e w7 ⟨rfl, H7⟩))
            go_ret
            exact ⟨rfl, H7.1, ((Only.of_below b5.out).trans H6.2).trans H7.2⟩
          · rw [fill_err hbl he]
            go_enter Tryz.func11, Tryz.ntmps11
            go_wp2_with (first
              | (go_at_call 38; (with_reducible refine HLe.out.mono ?_); rintro e w0 ⟨rfl, rfl⟩; clear HLe)
              | (go_at_call 25; (with_reducible refine HMy.out.mono ?_); rintro e w1 ⟨rfl, H1⟩; clear HMy; have HFi := Lib.hid (rfind_any w1 (HA.out.kept H1) (HF.out.kept H1) HP.out))
              | (go_at_call 39; (with_reducible refine HFi.out.mono ?_); rintro e w2 ⟨v2, rfl, o2, H2⟩; clear HFi; obtain ⟨A2, z2, rfl, _, _, _⟩ := o2.form; clear o2; have b2 := Lib.hid (belowThen H1 H2); have HNx := Lib.hid (rnext_any w2 (HA.out.kept b2.out) (HF.out.kept b2.out) HP.out))
              | (go_at_call 23; (with_reducible refine HNx.out.mono ?_); rintro e w3 ⟨rfl, H3⟩; clear HNx; have b3 := Lib.hid (belowThen b2.out H3); have HPt := Lib.hid (rcput_any ((hdOf S P).seq + 1) A n z zs w3 (row_below b3.out HR.out)); rw [HErr.out, HOut.out] at HPt)
              | (go_at_call 40; (with_reducible refine HPt.out.mono ?_); rintro e w4 ⟨v4, rfl, o4, H4⟩; clear HPt; rw [cell_len] at o4; obtain ⟨A4, z4, rfl, _, r4, k4⟩ := o4.form; clear o4; have b4 := Lib.hid (belowThen b3.out H4); have HR4 := Lib.hid r4; have HK4 := Lib.hid (show Clear g m k A4 320 from .inr (fun y hy hin => by have h1 := (k4 y hy).1; have h2 := (HF.out.kept b3.out).lt hin; omega)); clear r4 k4; have HBl := Lib.hid (rablank_any ((hdOf S P).next : Int) w4 (HA.out.kept b4.out) (HF.out.kept b4.out) HP.out); rw [hbl] at HBl)
              | (go_at_call 41; (with_reducible refine HBl.out.mono ?_); rintro e w5 ⟨rfl, H5⟩; clear HBl; have b5 := Lib.hid (belowThen b4.out H5); have HE := Lib.hid (raerase_any ((hdOf S P).next : Int) w5 (HA.out.kept b5.out) (HF.out.kept b5.out) hfew (by omega) HP.out))
              | (go_at_call 42; (with_reducible refine HE.out.mono ?_); rintro e w6 ⟨rfl, H6⟩; clear HE))
            go_ret
            exact ⟨rfl, H6.1, (Only.of_below b5.out).trans H6.2⟩
      · rw [put_worn hc (by omega) hm]
        rw [may_no hm] at HMy
        clear hc hm hl hn hseq
        go_enter Tryz.func11, Tryz.ntmps11
        go_wp2_with (first
          | (go_at_call 38; (with_reducible refine HLe.out.mono ?_); rintro e w0 ⟨rfl, rfl⟩; clear HLe)
          | (go_at_call 25; (with_reducible refine HMy.out.mono ?_); rintro e w1 ⟨rfl, H1⟩; clear HMy))
        go_ret
        exact ⟨rfl, HF.out.kept H1, Only.of_below H1⟩
  · rw [put_few hc]
    have c4 : (P.cnt : Int) < 4 := by omega
    clear hc hl
    go_enter Tryz.func11, Tryz.ntmps11
    go_wp2_with (first
      | (go_at_call 38; (with_reducible refine HLe.out.mono ?_); rintro e w0 ⟨rfl, rfl⟩; clear HLe))
    go_ret
    exact ⟨rfl, HF.out, Only.refl _ _⟩
end Go.Proofs.YtcecommnpdfhgaaGreatDoor
