/-
  How a request and an answer are read by the program: readAll, Read and ReadAnswer; conditions: the bytes lie as they read.
-/
import Derived.Test.YtjfgnoidoeaaeaaRe
namespace Go.Proofs.Ytjfgnoidoeaaeaa
open Go.RowKit
set_option linter.unusedVariables false
set_option linter.unusedSimpArgs false

theorem results_q {fn : Func} {p u : Tmp} (h : fn.results = #[.cell p 24, .tmp u]) (tmps : Array Value) (w : World) (g : Nat) (k n : Int) (v : Value)
    (hp : tmps.getD p undef = .pointer (some ⟨g, 0, none⟩)) (hg : Has w g 24 (qc k n v)) :
    (results fn tmps).run Try.prog w = .ok (.tuple #[.agg (qc k n v), tmps.getD u undef]) w := by
  have hp' : tmps[p]?.getD undef = .pointer (some ⟨g, 0, none⟩) := by simpa using hp
  have hr := run_loadVar_row w g 24 24 (qc k n v) (0, 0) _ hg Try.underlying24 rfl (size24 k n v)
  simp [results, h, hp', asAddr, hr]
theorem results_r {fn : Func} {p u : Tmp} (h : fn.results = #[.cell p 27, .tmp u]) (tmps : Array Value) (w : World) (g : Nat) (r : Rp)
    (hp : tmps.getD p undef = .pointer (some ⟨g, 0, none⟩)) (hg : Has w g 27 r.cells) :
    (results fn tmps).run Try.prog w = .ok (.tuple #[.agg r.cells, tmps.getD u undef]) w := by
  have hp' : tmps[p]?.getD undef = .pointer (some ⟨g, 0, none⟩) := by simpa using hp
  have hr := run_loadVar_row w g 27 27 r.cells (0, 0) _ hg Try.underlying27 rfl (size27 r)
  simp [results, h, hp', asAddr, hr]
theorem own_new {w w2 : World} {base : Nat} {v : Value} {n : Nat} {zs : List Int} {o : Obj} (h : Own w base v n zs) (on : Only (fun b => b = w.heap.size) (w.alloc o) w2) : Own w2 base v n zs := by
  have h1 := h.kept (Below.alloc (Below.refl w.heap.size w) (Nat.le_refl _) o)
  exact h1.stay fun g hg => on.block g (h1.lt g hg) (fun e => by have := h.lt g hg; omega)
theorem own_set {w : World} {base g : Nat} {v : Value} {n : Nat} {zs : List Int} (h : Own w base v n zs) (cs : Array Value) (hg : g < base) : Own (w.setRow g cs) base v n zs := own_by h fun i hi _ => setRow_other w g i cs (by omega)
/-- What Read answers; what ReadAnswer does. -/
def ReadsQ (zs : List Int) (w : World) (e : Ending) (w' : World) : Prop := ∃ u, e = .returned (.tuple #[.agg (qc (toldK zs) (toldN zs) u), .int .i64 (toldE zs)]) ∧ Own w' w.heap.size u (toldB zs).length (toldB zs) ∧ Below w.heap.size w w'
def ReadsR (zs : List Int) (w : World) (e : Ending) (w' : World) : Prop := e = .returned (.tuple #[.agg (respR zs).cells, .int .i64 (respE zs)]) ∧ Below w.heap.size w w'
theorem readsq_no {zs : List Int} {w w' : World} (h : ¬ GoodQ zs) (hb : Below w.heap.size w w') : ReadsQ zs w (.returned (.tuple #[.agg (qc 0 0 nilV), .int .i64 6])) w' :=
  ⟨nilV, by unfold toldK toldN toldE; rw [if_neg h, if_neg h, if_neg h], by unfold toldB; rw [if_neg h]; exact own_nil _ _, hb⟩
theorem readsq_yes {zs : List Int} {w w' : World} {u : Value} (h : GoodQ zs) (ho : Own w' w.heap.size u (zs.drop 7).length (zs.drop 7)) (hb : Below w.heap.size w w') : ReadsQ zs w (.returned (.tuple #[.agg (qc (reqK zs) (reqN zs) u), .int .i64 0])) w' :=
  ⟨u, by unfold toldK toldN toldE; rw [if_pos h, if_pos h, if_pos h], by unfold toldB; rw [if_pos h]; exact ho, hb⟩
theorem readsr_no {zs : List Int} {w w' : World} (h : ¬ GoodR zs) (hb : Below w.heap.size w w') : ReadsR zs w (.returned (.tuple #[.agg zeroR.cells, .int .i64 6])) w' :=
  ⟨by unfold respR respE; rw [if_neg h, if_neg h], hb⟩
theorem readsr_yes {zs : List Int} {w w' : World} (h : GoodR zs) (hb : Below w.heap.size w w') : ReadsR zs w (.returned (.tuple #[.agg (respS zs).cells, .int .i64 0])) w' :=
  ⟨by unfold respR respE; rw [if_pos h, if_pos h], hb⟩
def AllQ (zs : List Int) (w : World) (e : Ending) (w' : World) : Prop := ∃ v, e = .returned v ∧ Below w.heap.size w w' ∧
  ((v = .nilIface ∧ ¬ GoodQ zs) ∨ (GoodQ zs ∧ ∃ A c, v = .iface 24 (.agg (qc (reqK zs) (reqN zs) (.slice A (zs.drop 7).length c))) ∧ Own w' w.heap.size (.slice A (zs.drop 7).length c) (zs.drop 7).length (zs.drop 7)))
def AllR (zs : List Int) (w : World) (e : Ending) (w' : World) : Prop := ∃ v, e = .returned v ∧ Below w.heap.size w w' ∧
  ((v = .nilIface ∧ ¬ GoodR zs) ∨ (v = .iface 27 (.agg (respS zs).cells) ∧ GoodR zs))
set_option maxRecDepth 100000 in
set_option maxHeartbeats 4000000 in
theorem allQ_any (A : Option Addr) (n c : Nat) (zs : List Int) (w : World) (hr : Row w A n zs) (hn : n ≤ 1000000) :
    Calls Try.prog 21 #[.slice A n c, .func (.func 22) #[] #[]] w (AllQ zs w) := by
  have HB := Lib.hid hr.2.1
  have HN := Lib.hid (newReader_any A n c zs w hr hn)
  clear hr
  go_enter Try.func21, Try.ntmps21
  go_wp2_with (first
    | (go_at_call 33; (with_reducible refine HN.out.mono ?_); rintro e w1 ⟨p, rfl, hp, hd, b1⟩; clear HN; rw [← st_zero zs] at hd; have HQ := Lib.hid (readReq_any w1 HB.out hd); have C1 := Lib.hid b1; have HP := Lib.hid hp; clear hd b1 hp)
    | (go_at_call 22; (with_reducible refine HQ.out.mono ?_); rintro e w2 ⟨v, S, rfl, hd, o, hc⟩; clear HQ; have C2 := Lib.hid (C1.out.trans (o.to_below C1.out.size (fun b e => by have := HP.out; omega))); have D2 := Lib.hid hd; have HBD := Lib.hid (bad_any w2 hd); have HLF := Lib.hid (left_any w2 hd); have HC := Lib.hid hc; clear hd o hc))
  have hS : ∀ (b : Bool) (k : Nat), S.bad = b → S.rest.length = k → ((b = true ∨ 0 < k) ∨ (b = false ∧ k = 0)) := fun b k _ _ => by
    cases b
    · by_cases h : 0 < k
      · exact .inl (.inr h)
      · exact .inr ⟨rfl, by omega⟩
    · exact .inl (.inl rfl)
  have HS := Lib.hid hS
  clear hS
  generalize hbad : S.bad = b at *
  generalize hleft : S.rest.length = k at *
  cases b with
  | true =>
    go_wp2_with (first | (go_at_call 34; (with_reducible refine HBD.out.mono ?_); rintro e w3 ⟨rfl, rfl⟩))
    go_ret
    refine ⟨_, rfl, C2.out, .inl ⟨rfl, fun g => ?_⟩⟩
    rcases HC.out with ⟨_, h⟩ | ⟨h1, h2, rfl, _⟩
    · exact h g
    · have h3 := good_long HB.out g
      have h4 := g.1
      have hc : (cutN (reqZ zs) 1000 : Int) = reqZ zs := cut_mid (by have := reqZ_lt HB.out; omega) h1
      rw [st_fine (by omega)] at hbad
      cases hbad
  | false =>
    by_cases hk : 0 < k
    · have hk' : (0 : Int) < (k : Int) := by omega
      go_wp2_with (first | (go_at_call 34; (with_reducible refine HBD.out.mono ?_); rintro e w3 ⟨rfl, rfl⟩) | (go_at_call 35; (with_reducible refine HLF.out.mono ?_); rintro e w3 ⟨rfl, rfl⟩))
      go_ret
      refine ⟨_, rfl, C2.out, .inl ⟨rfl, fun g => ?_⟩⟩
      rcases HC.out with ⟨_, h⟩ | ⟨h1, h2, rfl, _⟩
      · exact h g
      · have h3 := good_long HB.out g
        have h4 := g.1
        have hc : (cutN (reqZ zs) 1000 : Int) = reqZ zs := cut_mid (by have := reqZ_lt HB.out; omega) h1
        rw [st_left] at hleft
        omega
    · obtain rfl : k = 0 := by omega
      go_wp2_with (first | (go_at_call 34; (with_reducible refine HBD.out.mono ?_); rintro e w3 ⟨rfl, rfl⟩) | (go_at_call 35; (with_reducible refine HLF.out.mono ?_); rintro e w3 ⟨rfl, rfl⟩))
      go_ret
      rcases HC.out with ⟨rfl, h⟩ | ⟨h1, h2, rfl, u, rfl, ou⟩
      · exact ⟨_, rfl, C2.out, .inl ⟨rfl, h⟩⟩
      · have h3 : ¬ zs.length < 7 + cutN (reqZ zs) 1000 := fun h => by rw [st_low h] at hbad; cases hbad
        rw [st_left] at hleft
        have g := good_end HB.out h1 h2 (by omega)
        have e7 := gotD_good HB.out g
        rw [e7] at ou
        have ou' := ou.lower (base' := w.heap.size) C1.out.size
        obtain ⟨A1, c1, rfl, _, _, _⟩ := ou'.form
        exact ⟨_, rfl, C2.out, .inr ⟨g, A1, c1, rfl, ou'⟩⟩
set_option maxRecDepth 100000 in
set_option maxHeartbeats 4000000 in
theorem allR_any (A : Option Addr) (n c : Nat) (zs : List Int) (w : World) (hr : Row w A n zs) (hn : n ≤ 1000000) :
    Calls Try.prog 21 #[.slice A n c, .func (.func 27) #[] #[]] w (AllR zs w) := by
  have HN := Lib.hid (newReader_any A n c zs w hr hn)
  clear hr
  go_enter Try.func21, Try.ntmps21
  go_wp2_with (first
    | (go_at_call 33; (with_reducible refine HN.out.mono ?_); rintro e w1 ⟨p, rfl, hp, hd, b1⟩; clear HN; rw [← st_zero zs] at hd; have HQ := Lib.hid (readResp_any w1 hd); have C1 := Lib.hid b1; have HP := Lib.hid hp; clear hd b1 hp)
    | (go_at_call 27; (with_reducible refine HQ.out.mono ?_); rintro e w2 ⟨v, rfl, hd, o, hc⟩; clear HQ; have C2 := Lib.hid (C1.out.trans (o.to_below C1.out.size (fun b e => by have := HP.out; omega))); have D2 := Lib.hid hd; have HBD := Lib.hid (bad_any w2 hd); have HLF := Lib.hid (left_any w2 hd); have HC := Lib.hid hc; clear hd o hc))
  rw [st_left] at HLF
  by_cases h9 : zs.length < 9
  · rw [st_low h9] at HBD
    go_wp2_with (first | (go_at_call 34; (with_reducible refine HBD.out.mono ?_); rintro e w3 ⟨rfl, rfl⟩))
    go_ret
    exact ⟨_, rfl, C2.out, .inl ⟨rfl, not_nine (by omega)⟩⟩
  · rw [st_fine (by omega)] at HBD
    by_cases hk : zs.length = 9
    · rw [hk] at HLF
      go_wp2_with (first | (go_at_call 34; (with_reducible refine HBD.out.mono ?_); rintro e w3 ⟨rfl, rfl⟩) | (go_at_call 35; (with_reducible refine HLF.out.mono ?_); rintro e w3 ⟨rfl, rfl⟩))
      go_ret
      rcases HC.out with ⟨rfl, h⟩ | ⟨rfl, h⟩
      · exact ⟨_, rfl, C2.out, .inl ⟨rfl, fun g => by rw [g.2] at h; cases h⟩⟩
      · exact ⟨_, rfl, C2.out, .inr ⟨rfl, hk, h⟩⟩
    · have hk' : (0 : Int) < ((zs.length - 9 : Nat) : Int) := by omega
      go_wp2_with (first | (go_at_call 34; (with_reducible refine HBD.out.mono ?_); rintro e w3 ⟨rfl, rfl⟩) | (go_at_call 35; (with_reducible refine HLF.out.mono ?_); rintro e w3 ⟨rfl, rfl⟩))
      go_ret
      exact ⟨_, rfl, C2.out, .inl ⟨rfl, not_nine hk⟩⟩
set_option maxRecDepth 100000 in
set_option maxHeartbeats 4000000 in
theorem read_any (A : Option Addr) (n c : Nat) (zs : List Int) (w : World) (hr : Row w A n zs) (hn : n ≤ 1000000) : Calls Try.prog 8 #[.slice A n c] w (ReadsQ zs w) := by
  have hz24 := zero24_run
  have C0 : Hid (Below w.heap.size w (w.alloc (.cells (qc 0 0 nilV) 24))) := Lib.hid ((Below.refl _ _).alloc (Nat.le_refl _) _)
  have H0 := Lib.hid (has_new w 24 (qc 0 0 nilV))
  have HA := Lib.hid (allQ_any A n c zs _ (row_lt hr (Nat.le_refl _) C0.out) hn)
  clear hr
  go_enter Try.func8, Try.ntmps8
  go_wp2_with (first
    | (go_at_call 21; (with_reducible refine HA.out.mono ?_); rintro e w1 ⟨v, rfl, b1, hc⟩; clear HA; have H1 := Lib.hid (H0.out.kept b1); have C1 := Lib.hid (C0.out.trans (b1.mono C0.out.size)); have Z1 := Lib.hid b1.size; have HC := Lib.hid hc; clear b1 hc))
  rcases HC.out with ⟨rfl, h⟩ | ⟨g, A1, c1, rfl, ou⟩
  · rw [as24_nil w1]
    have hne := has_new w1 24 (qc 0 0 nilV)
    clear HC
    go_wp2_with (first
      | (refine wpList_row rfl 24 _ _ rfl w1.heap.size (qc 0 0 nilV) rfl rfl 24 _ hne (size24 _ _ _) rfl (qc_all _ _ _ _ _) ?_; intro w2 hs2 on2; have H2 := Lib.hid ((H1.out.more (.cells (qc 0 0 nilV) 24)).only on2 (by have := H1.out.size; omega)); have C2 := Lib.hid ((C1.out.alloc C1.out.size (.cells (qc 0 0 nilV) 24)).trans (on2.to_below (C1.out.alloc C1.out.size (.cells (qc 0 0 nilV) 24)).size (fun b e => by have := C1.out.size; omega))); clear hs2 on2 hne)
      | (refine wpList_build_to rfl 24 _ rfl _ built24 ?_)
      | (refine wpList_store_row rfl 24 _ _ rfl w.heap.size (qc 0 0 nilV) rfl rfl 24 _ H2.out (size24 _ _ _) rfl (qc_all _ _ _ _ _) ?_))
    exact bodyPost_ret (results_q (p := 2) (u := 3) rfl _ _ w.heap.size 0 0 nilV rfl (setRow_heap _ _ _ _ _ _ H2.out)) rfl (readsq_no h (below_setRow C2.out (Nat.le_refl _) _))
  · clear HC
    have OU := Lib.hid ou
    clear ou
    have HD : ∃ ds, zs.drop 7 = ds := ⟨_, rfl⟩
    obtain ⟨ds, hd⟩ := HD
    rw [hd] at OU ⊢
    have HDD := Lib.hid hd
    clear hd
    rw [as24_yes w1 (.agg (qc (reqK zs) (reqN zs) (.slice A1 ds.length c1)))]
    have hne := has_new w1 24 (qc 0 0 nilV)
    go_wp2_with (first
      | (refine wpList_row rfl 24 _ _ rfl w1.heap.size (qc (reqK zs) (reqN zs) (.slice A1 ds.length c1)) rfl rfl 24 _ hne (size24 _ _ _) rfl (qc_all _ _ _ _ _) ?_; intro w2 hs2 on2; have H2 := Lib.hid ((H1.out.more (.cells (qc 0 0 nilV) 24)).only on2 (by have := H1.out.size; omega)); have C2 := Lib.hid ((C1.out.alloc C1.out.size (.cells (qc 0 0 nilV) 24)).trans (on2.to_below (C1.out.alloc C1.out.size (.cells (qc 0 0 nilV) 24)).size (fun b e => by have := C1.out.size; omega))); have L2 := Lib.hid (ld24 hs2); have U2 := Lib.hid (own_new OU.out on2); clear hs2 on2 hne)
      | (refine wpList_ld 24 _ rfl _ _ L2.out rfl rfl ?_)
      | (refine wpList_store_row rfl 24 _ _ rfl w.heap.size (qc (reqK zs) (reqN zs) (.slice A1 ds.length c1)) rfl rfl 24 _ H2.out (size24 _ _ _) rfl (qc_all _ _ _ _ _) ?_))
    have HU := own_set U2.out (qc (reqK zs) (reqN zs) (.slice A1 ds.length c1)) (g := w.heap.size) (by simp)
    have HU2 := HU.lower (base' := w.heap.size) (by simp)
    have e7 := HDD.out
    clear HDD
    subst e7
    exact bodyPost_ret (results_q (p := 2) (u := 3) rfl _ _ w.heap.size _ _ _ rfl (setRow_heap _ _ _ _ _ _ H2.out)) rfl (readsq_yes g HU2 (below_setRow C2.out (Nat.le_refl _) _))
set_option maxRecDepth 100000 in
set_option maxHeartbeats 4000000 in
theorem readAnswer_any (A : Option Addr) (n c : Nat) (zs : List Int) (w : World) (hr : Row w A n zs) (hn : n ≤ 1000000) : Calls Try.prog 10 #[.slice A n c] w (ReadsR zs w) := by
  have hz27 := zero27_run
  have C0 : Hid (Below w.heap.size w (w.alloc (.cells zeroR.cells 27))) := Lib.hid ((Below.refl _ _).alloc (Nat.le_refl _) _)
  have H0 := Lib.hid (has_new w 27 zeroR.cells)
  have HA := Lib.hid (allR_any A n c zs _ (row_lt hr (Nat.le_refl _) C0.out) hn)
  clear hr
  go_enter Try.func10, Try.ntmps10
  go_wp2_with (first
    | (go_at_call 21; (with_reducible refine HA.out.mono ?_); rintro e w1 ⟨v, rfl, b1, hc⟩; clear HA; have H1 := Lib.hid (H0.out.kept b1); have C1 := Lib.hid (C0.out.trans (b1.mono C0.out.size)); have HC := Lib.hid hc; clear b1 hc))
  rcases HC.out with ⟨rfl, h⟩ | ⟨rfl, g⟩
  · rw [as27_nil w1]
    have hne := has_new w1 27 zeroR.cells
    clear HC
    go_wp2_with (first
      | (refine wpList_row rfl 27 _ _ rfl w1.heap.size zeroR.cells rfl rfl 27 _ hne (size27 _) rfl (rp_all _) ?_; intro w2 hs2 on2; have H2 := Lib.hid ((H1.out.more (.cells zeroR.cells 27)).only on2 (by have := H1.out.size; omega)); have C2 := Lib.hid ((C1.out.alloc C1.out.size (.cells zeroR.cells 27)).trans (on2.to_below (C1.out.alloc C1.out.size (.cells zeroR.cells 27)).size (fun b e => by have := C1.out.size; omega))); clear hs2 on2 hne)
      | (refine wpList_build_to rfl 27 _ rfl _ built27 ?_)
      | (refine wpList_store_row rfl 27 _ _ rfl w.heap.size zeroR.cells rfl rfl 27 _ H2.out (size27 _) rfl (rp_all _) ?_))
    exact bodyPost_ret (results_r (p := 2) (u := 3) rfl _ _ w.heap.size zeroR rfl (setRow_heap _ _ _ _ _ _ H2.out)) rfl (readsr_no h (below_setRow C2.out (Nat.le_refl _) _))
  · rw [as27_yes w1 (.agg (respS zs).cells)]
    have hne := has_new w1 27 zeroR.cells
    clear HC
    go_wp2_with (first
      | (refine wpList_row rfl 27 _ _ rfl w1.heap.size (respS zs).cells rfl rfl 27 _ hne (size27 _) rfl (rp_all _) ?_; intro w2 hs2 on2; have H2 := Lib.hid ((H1.out.more (.cells zeroR.cells 27)).only on2 (by have := H1.out.size; omega)); have C2 := Lib.hid ((C1.out.alloc C1.out.size (.cells zeroR.cells 27)).trans (on2.to_below (C1.out.alloc C1.out.size (.cells zeroR.cells 27)).size (fun b e => by have := C1.out.size; omega))); have L2 := Lib.hid (ld27 hs2); clear hs2 on2 hne)
      | (refine wpList_ld 27 _ rfl _ _ L2.out rfl rfl ?_)
      | (refine wpList_store_row rfl 27 _ _ rfl w.heap.size (respS zs).cells rfl rfl 27 _ H2.out (size27 _) rfl (rp_all _) ?_))
    exact bodyPost_ret (results_r (p := 2) (u := 3) rfl _ _ w.heap.size (respS zs) rfl (setRow_heap _ _ _ _ _ _ H2.out)) rfl (readsr_yes g (below_setRow C2.out (Nat.le_refl _) _))
end Go.Proofs.Ytjfgnoidoeaaeaa
