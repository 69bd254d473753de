/-
  The calls that look at a ring: has, find; conditions: the area and its flash are there.
-/
import Derived.Test.YtclephjnokbaoaaRgP
import Derived.Test.YtclephjnokbaoaaAbl
import Derived.Test.YtclephjnokbaoaaCeCget
import Derived.Handy
import Derived.Laws.Tables
namespace Go.Proofs.Ytclephjnokbaoaa
open Go.RowKit
set_option linter.unusedVariables false
set_option linter.unusedSimpArgs false

theorem has_any {x g : Nat} {P : Pt} (w : World) (ha : Ar w x g P) : Calls Try.prog 48 #[.pointer (some ⟨x, 0, none⟩)] w fun e w' => e = .returned (.bool (decide (4 ≤ P.cnt))) ∧ Below w.heap.size w w' := by
  have HL := Lib.hid (alen_any w ha)
  have hd : decide (4 ≤ P.cnt) = decide ((4 : Int) ≤ (P.cnt : Int)) := by rw [decide_eq_decide]; omega
  rw [hd]
  clear ha
  go_enter Try.func48, Try.ntmps48
  go_wp2_with (go_at_call 32; (with_reducible refine HL.out.mono ?_); rintro e w1 ⟨rfl, H1⟩)
  go_ret
  exact ⟨rfl, H1⟩
def hcells (h : Hd) (v : Value) : Array Value := #[.int .i64 (h.sec : Int), .int .i64 h.seq, v]
/-- What find answers. -/
def Finds (h : Hd) (w : World) (e : Ending) (w' : World) : Prop := ∃ v, e = .returned (.agg (hcells h v)) ∧ Own w' w.heap.size v h.load.length h.load ∧ Below w.heap.size w w'
theorem size59 (h : Hd) (v : Value) : (Try.prog.info? 80).map (·.size) = some (hcells h v).size := by
  show _ = some 3
  kernel_rfl
/-- So many sectors are looked at. -/
def Looks (S : Fs) (P : Pt) (w : World) (R H : Nat) (i : Value) (wr : World) : Prop :=
  ∃ (k : Nat) (v : Value), i = .int .i64 (k : Int) ∧ k ≤ 4 ∧ Has wr R 80 #[.int .i64 0, .int .i64 0, .slice none 0 0] ∧ Has wr H 80 (hcells (look S P k) v) ∧ Own wr (w.heap.size + 2) v (look S P k).load.length (look S P k).load ∧ Below w.heap.size w wr
theorem sec_in {P : Pt} (h : 4 ≤ P.cnt) {k : Nat} (hk : k < 4) : P.in (k : Int) 0 320 := ⟨⟨by omega, by omega⟩, by omega, by omega, by omega⟩
theorem sec_len {S : Fs} {P : Pt} (hS : S.Ok) (hp : P.Ok S.wear.length) (h : 4 ≤ P.cnt) {k : Nat} (hk : k < 4) : (secL S P k).length = 320 := by
  unfold secL aRead
  rw [if_pos (sec_in h hk)]
  have h1 := hp.in'
  have h2 := hS.len
  have e : P.place (k : Int) 0 = (((P.fst + k) * 320 : Nat) : Int) := by unfold Pt.place; omega
  rw [e, show (320 : Int) = ((320 : Nat) : Int) from rfl, read_yes (by omega) (by omega)]
  rw [List.length_take, List.length_drop]
  omega
theorem size59' : (Try.prog.info? 80).map (·.size) = some 3 := by kernel_rfl
theorem all3 (a b : Int) (A : Option Addr) (n z : Nat) : (#[.int .i64 a, .int .i64 b, .slice A n z] : Array Value).all (·.oneCell') = true := by simp [Value.oneCell']
theorem own_by {w w' : World} {base : Nat} {v : Value} {n : Nat} {zs : List Int} (h : Own w base v n zs) (hk : ∀ g, base ≤ g → g < w.heap.size → w'.heap[g]? = w.heap[g]?) : Own w' base v n zs := by
  obtain ⟨⟨h1, h2⟩, h3⟩ := h
  refine ⟨⟨h1, ?_⟩, h3⟩
  rcases h2 with h2 | ⟨g, cap, cur, e1, e2, e3, e4⟩
  · exact .inl h2
  · exact .inr ⟨g, cap, cur, e1, e2, (hk g e2 (Array.getElem?_eq_some_iff.1 e3).1).trans e3, e4⟩
set_option maxRecDepth 100000 in
set_option maxHeartbeats 1000000 in
theorem find_any {T x g m k : Nat} {S : Fs} {P : Pt} (w : World) (ha : Ar w x g P) (hf : Fl w T g m k S) (hp : P.Ok S.wear.length) :
    Calls Try.prog 49 #[.pointer (some ⟨x, 0, none⟩)] w (Finds (hdOf S P) w) := by
  by_cases hc : 4 ≤ P.cnt
  · rw [hd_yes hc]
    have hd : decide (4 ≤ P.cnt) = true := by simpa using hc
    have b0 : Below w.heap.size w ((w.alloc (.cells #[.int .i64 0, .int .i64 0, .slice none 0 0] 80)).alloc (.cells #[.int .i64 3, .int .i64 0, .slice none 0 0] 80)) := ((Below.refl _ w).alloc (Nat.le_refl _) _).alloc (by simp) _
    have HH := Lib.hid (has_any _ (ha.kept b0))
    rw [hd] at HH
    have HA := Lib.hid ha
    have HF := Lib.hid hf
    have HC := Lib.hid hc
    have HP := Lib.hid hp
    clear ha hf hd hc hp
    go_enter Try.func49, Try.ntmps49
    go_wp2_with (go_at_call 48; (with_reducible refine HH.out.mono ?_); rintro e w1 ⟨rfl, H1⟩; have b1 := Lib.hid (b0.trans (H1.mono b0.size)); clear HH)
    have HS := Lib.hid (show Looks S P w w.heap.size (w.heap.size + 1) (.int .i64 0) w1 from by
      have k0 : Has ((w.alloc (.cells #[.int .i64 0, .int .i64 0, .slice none 0 0] 80)).alloc (.cells #[.int .i64 3, .int .i64 0, .slice none 0 0] 80)) w.heap.size 80 #[.int .i64 0, .int .i64 0, .slice none 0 0] := (has_new w 80 _).more _
      have k1 : Has ((w.alloc (.cells #[.int .i64 0, .int .i64 0, .slice none 0 0] 80)).alloc (.cells #[.int .i64 3, .int .i64 0, .slice none 0 0] 80)) (w.heap.size + 1) 80 #[.int .i64 3, .int .i64 0, .slice none 0 0] := by
        have := has_new (w.alloc (.cells #[.int .i64 0, .int .i64 0, .slice none 0 0] 80)) 80 #[.int .i64 3, .int .i64 0, .slice none 0 0]
        simpa using this
      exact ⟨0, .slice none 0 0, rfl, by omega, k0.kept H1, k1.kept H1, own_nil _ _, b1.out⟩)
    clear b0 H1 b1
    go_loopw [13] (Looks S P w w.heap.size (w.heap.size + 1)) (fun i _ => 4 - (intOf i).toNat)
    case atStart => exact HS.out
    case round =>
      clear HS
      obtain ⟨q, v, rfl, hq, hR, hH, hO, hB⟩ := hrel
      have HO := Lib.hid hO
      have HB := Lib.hid hB
      have HR := Lib.hid hR
      have HHd := Lib.hid hH
      unfold hcells at hH
      by_cases hlt : q < 4
      · have i1 : (q : Int) < 4 := by omega
        have q1 : IntKind.i64.wrap ((q : Int) + 1) = (q : Int) + 1 := by rw [IntKind.wrap_i64]; omega
        have HRd := Lib.hid (aread_any (q : Int) 0 320 _ (HA.out.kept HB.out) (HF.out.kept HB.out) HP.out ⟨by omega, by omega⟩ ⟨by omega, by omega⟩)
        have HLn := Lib.hid (sec_len HF.out.ok HP.out HC.out hlt)
        clear hO hB hR hH
        by_cases hg : Good (secL S P q)
        · have HG := Lib.hid hg
          by_cases hn : (look S P q).seq < seqN (secL S P q)
          · have HN := Lib.hid (look_yes (S := S) (P := P) (k := q) ⟨hg, hn⟩)
            have HD := Lib.hid hn
            replace hn : (look S P q).seq < seqN (aRead S P (q : Int) 0 320) := hn
            clear hg
            go_wp2_with (first
              | (go_at_call 59; (with_reducible refine HRd.out.mono ?_); rintro e w2 ⟨A2, c2, rfl, _, r2, _, H2⟩; have HLn2 : (aRead S P (q : Int) 0 320).length = 320 := HLn.out; rw [HLn2] at r2 ⊢; have HGt := Lib.hid (cget_any A2 320 c2 _ w2 r2); clear HRd r2 HLn2)
              | (go_at_call 58; (with_reducible refine HGt.out.mono ?_); rintro e w3 ⟨n3, v3, rs, b, rfl, hcl, o3, H3⟩; clear HGt; obtain ⟨rfl, rfl, rfl⟩ := hcl.some HG.out; have b3 := Lib.hid (belowThen H2 H3); have HBS := Lib.hid (Nat.lt_of_lt_of_le HHd.out.size H2.size); have hH3 := HHd.out.kept b3.out; have HH3 := Lib.hid hH3; have c0 := hH3.at 0; have c1 := hH3.at 1; have c2 := hH3.at 2; have f0 := hH3.soft 0; have f1 := hH3.soft 1; have f2 := hH3.soft 2; have d1 : w3.cell? ⟨w.heap.size + 1, 1, none⟩ = some (.int .i64 (look S P q).seq) := c1; clear c1 hcl hH3 H2 H3; obtain ⟨A3, z3, rfl, hz3, r3, _⟩ := o3.form)
              | (refine wpList_store_row rfl 80 _ _ rfl (w.heap.size + 1) #[.int .i64 (q : Int), .int .i64 (seqN (aRead S P (q : Int) 0 320)), .slice A3 (loadL (aRead S P (q : Int) 0 320)).length z3] rfl rfl 80 _ HH3.out size59' rfl (all3 _ _ _ _ _) ?_))
            go_roundw
            case rel =>
              have hlt1 := HHd.out.size
              have hle3 := b3.out.size
              have hn1 := setRow_heap w3 (w.heap.size + 1) _ #[.int .i64 (q : Int), .int .i64 (seqN (aRead S P (q : Int) 0 320)), .slice A3 (loadL (aRead S P (q : Int) 0 320)).length z3] 80 (0, 0) HH3.out
              refine ⟨q + 1, .slice A3 (loadL (aRead S P (q : Int) 0 320)).length z3, by simp, by omega, ?_, by rw [HN.out]; exact hn1, ?_, ?_⟩
              · exact (setRow_other w3 (w.heap.size + 1) w.heap.size _ (by omega)).trans (HR.out.kept b3.out)
              · rw [HN.out]
                exact (own_by o3 (fun i hi _ => setRow_other w3 (w.heap.size + 1) i _ (by have := HBS.out; omega))).lower (by have := HBS.out; omega)
              · exact below_setRow (belowThen HB.out b3.out) (by omega) _
            case measure => simp only [intOf]; omega
          · have HN := Lib.hid (look_no (S := S) (P := P) (k := q) (fun h => hn h.2))
            replace hn : ¬ (look S P q).seq < seqN (aRead S P (q : Int) 0 320) := hn
            clear hg
            go_wp2_with (first
              | (go_at_call 59; (with_reducible refine HRd.out.mono ?_); rintro e w2 ⟨A2, c2, rfl, _, r2, _, H2⟩; have HLn2 : (aRead S P (q : Int) 0 320).length = 320 := HLn.out; rw [HLn2] at r2 ⊢; have HGt := Lib.hid (cget_any A2 320 c2 _ w2 r2); clear HRd r2 HLn2)
              | (go_at_call 58; (with_reducible refine HGt.out.mono ?_); rintro e w3 ⟨n3, v3, rs, b, rfl, hcl, o3, H3⟩; clear HGt; obtain ⟨rfl, rfl, rfl⟩ := hcl.some HG.out; have b3 := Lib.hid (belowThen H2 H3); have HBS := Lib.hid (Nat.lt_of_lt_of_le HHd.out.size H2.size); have hH3 := HHd.out.kept b3.out; have HH3 := Lib.hid hH3; have c0 := hH3.at 0; have c1 := hH3.at 1; have c2 := hH3.at 2; have f0 := hH3.soft 0; have f1 := hH3.soft 1; have f2 := hH3.soft 2; have d1 : w3.cell? ⟨w.heap.size + 1, 1, none⟩ = some (.int .i64 (look S P q).seq) := c1; clear c1 hcl hH3 H2 H3; obtain ⟨A3, z3, rfl, hz3, r3, _⟩ := o3.form))
            go_roundw
            case rel => exact ⟨q + 1, v, by simp, by omega, HR.out.kept b3.out, by rw [HN.out]; exact HH3.out, by rw [HN.out]; exact HO.out.kept b3.out, belowThen HB.out b3.out⟩
            case measure => simp only [intOf]; omega
        · have HN := Lib.hid (look_no (S := S) (P := P) (k := q) (fun h => hg h.1))
          have HG := Lib.hid hg
          clear hg
          go_wp2_with (first
            | (go_at_call 59; (with_reducible refine HRd.out.mono ?_); rintro e w2 ⟨A2, c2, rfl, _, r2, _, H2⟩; have HLn2 : (aRead S P (q : Int) 0 320).length = 320 := HLn.out; rw [HLn2] at r2 ⊢; have HGt := Lib.hid (cget_any A2 320 c2 _ w2 r2); clear HRd r2 HLn2)
            | (go_at_call 58; (with_reducible refine HGt.out.mono ?_); rintro e w3 ⟨n3, v3, rs, b, rfl, hcl, o3, H3⟩; clear HGt; obtain ⟨rfl, rfl, rfl⟩ := hcl.none HG.out; have b3 := Lib.hid (belowThen H2 H3); have HBS := Lib.hid (Nat.lt_of_lt_of_le HHd.out.size H2.size); have hH3 := HHd.out.kept b3.out; have HH3 := Lib.hid hH3; have c0 := hH3.at 0; have c1 := hH3.at 1; have c2 := hH3.at 2; have f0 := hH3.soft 0; have f1 := hH3.soft 1; have f2 := hH3.soft 2; have d1 : w3.cell? ⟨w.heap.size + 1, 1, none⟩ = some (.int .i64 (look S P q).seq) := c1; clear c1 hcl hH3 H2 H3; obtain ⟨A3, z3, rfl, hz3, r3, _⟩ := o3.form))
          go_roundw
          case rel => exact ⟨q + 1, v, by simp, by omega, HR.out.kept b3.out, by rw [HN.out]; exact HH3.out, by rw [HN.out]; exact HO.out.kept b3.out, belowThen HB.out b3.out⟩
          case measure => simp only [intOf]; omega
      · obtain rfl : q = 4 := by omega
        clear hO hB hR hH
        obtain ⟨A3, z3, rfl, hz3, r3, _⟩ := HO.out.form
        have HSR := Lib.hid (setRow_heap wr w.heap.size _ (hcells (look S P 4) (.slice A3 (look S P 4).load.length z3)) 80 (0, 0) HR.out)
        go_wp2_with (first
          | (refine wpList_load_row rfl 80 _ rfl (w.heap.size + 1) rfl 80 _ (0, 0) _ HHd.out Try.underlying80 rfl (size59 _ _) ?_)
          | (refine wpList_store_row rfl 80 _ _ rfl w.heap.size (hcells (look S P 4) (.slice A3 (look S P 4).load.length z3)) rfl rfl 80 _ HR.out (size59 _ _) rfl (all3 _ _ _ _ _) ?_))
        refine bodyPost_ret (results_cell_row (p := 2) (ty := 80) rfl _ _ w.heap.size 80 _ (0, 0) _ rfl HSR.out Try.underlying80 rfl (size59 _ _)) rfl ?_
        refine ⟨_, rfl, ?_, below_setRow HB.out (Nat.le_refl _) _⟩
        exact (own_by HO.out (fun i hi _ => setRow_other wr w.heap.size i _ (by omega))).lower (by omega)
  · rw [hd_no hc]
    have hd : decide (4 ≤ P.cnt) = false := by simpa using hc
    have b0 : Below w.heap.size w ((w.alloc (.cells #[.int .i64 0, .int .i64 0, .slice none 0 0] 80)).alloc (.cells #[.int .i64 3, .int .i64 0, .slice none 0 0] 80)) := ((Below.refl _ w).alloc (Nat.le_refl _) _).alloc (by simp) _
    have HH := Lib.hid (has_any _ (ha.kept b0))
    rw [hd] at HH
    have k0 : Has ((w.alloc (.cells #[.int .i64 0, .int .i64 0, .slice none 0 0] 80)).alloc (.cells #[.int .i64 3, .int .i64 0, .slice none 0 0] 80)) w.heap.size 80 #[.int .i64 0, .int .i64 0, .slice none 0 0] := (has_new w 80 _).more _
    have k1 : Has ((w.alloc (.cells #[.int .i64 0, .int .i64 0, .slice none 0 0] 80)).alloc (.cells #[.int .i64 3, .int .i64 0, .slice none 0 0] 80)) (w.heap.size + 1) 80 #[.int .i64 3, .int .i64 0, .slice none 0 0] := by
      have := has_new (w.alloc (.cells #[.int .i64 0, .int .i64 0, .slice none 0 0] 80)) 80 #[.int .i64 3, .int .i64 0, .slice none 0 0]
      simpa using this
    have K0 := Lib.hid k0
    have K1 := Lib.hid k1
    clear ha hf hd hc hp k0 k1
    go_enter Try.func49, Try.ntmps49
    go_wp2_with (first
      | (go_at_call 48; (with_reducible refine HH.out.mono ?_); rintro e w1 ⟨rfl, H1⟩; have b1 := Lib.hid (b0.trans (H1.mono b0.size)); have R1 := Lib.hid (K0.out.kept H1); have L1 := Lib.hid (K1.out.kept H1); clear HH H1)
      | (refine wpList_load_row rfl 80 _ rfl (w.heap.size + 1) rfl 80 _ (0, 0) _ L1.out Try.underlying80 rfl size59' ?_)
      | (refine wpList_store_row rfl 80 _ _ rfl w.heap.size #[.int .i64 3, .int .i64 0, .slice none 0 0] rfl rfl 80 _ R1.out size59' rfl (all3 _ _ _ _ _) ?_))
    have HSR := setRow_heap w1 w.heap.size _ #[.int .i64 3, .int .i64 0, .slice none 0 0] 80 (0, 0) R1.out
    refine bodyPost_ret (results_cell_row (p := 2) (ty := 80) rfl _ _ w.heap.size 80 _ (0, 0) _ rfl HSR Try.underlying80 rfl size59') rfl ?_
    exact ⟨.slice none 0 0, rfl, own_nil _ _, below_setRow b1.out (Nat.le_refl _) _⟩
end Go.Proofs.Ytclephjnokbaoaa
