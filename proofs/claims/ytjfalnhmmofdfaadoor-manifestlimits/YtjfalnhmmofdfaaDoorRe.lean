/-
  How a manifest is read, the program's Read; conditions: the row reads as bytes.
-/
import Derived.Test.YtjfalnhmmofdfaaDoorRb
import Derived.Test.YtjfalnhmmofdfaaDoorBd
namespace Go.Proofs.YtjfalnhmmofdfaaDoor
open Go.RowKit
set_option linter.unusedVariables false
set_option linter.unusedSimpArgs false

/-- Results: a manifest that lies in a block, and two more. -/
theorem results_row3 {fn : Func} {p u v : Tmp} (h : fn.results = #[.cell p 27, .tmp u, .tmp v]) (tmps : Array Value) (w : World) (g : Nat) (m : Mn)
    (hp : tmps.getD p undef = .pointer (some ⟨g, 0, none⟩)) (hg : Has w g 27 m.cells) (hl : m.dig.length = 32) :
    (results fn tmps).run Tryd.prog w = .ok (.tuple #[.agg m.cells, tmps.getD u undef, tmps.getD v undef]) w := by
  have hp' : tmps[p]?.getD undef = .pointer (some ⟨g, 0, none⟩) := by simpa using hp
  have hr := run_loadVar_row w g 27 27 m.cells (0, 0) _ hg Tryd.underlying27 rfl (size27 hl)
  simp [results, h, hp', asAddr, hr]
theorem only_grown {w w' : World} {e : Nat} (h : w.grownBy w' (some e)) : Only (fun b => b = e) w w' := ⟨h.os, h.tape, h.output, h.size, fun b hb hp => h.block b hb (fun x => hp (by injection x))⟩
/-- A whole manifest is loaded, in a region that draws its order. -/
theorem yields_mn {ops : Array Oper} {S : World → Prop} {o : Oper} {a : Act} (hw : Region.wanted o (yielded ops a.tmps) = true) (x : Operand) (ho : o.op = .load 27 x) (g : Nat) (hx : a.eval x = .pointer (some ⟨g, 0, none⟩)) (m : Mn)
    (hS : ∀ W, S W → Has W g 27 m.cells) (hl : m.dig.length = 32) : YieldsIf Tryd.prog ops S o (.agg m.cells) a :=
  Or.inl ⟨hw, fun W hW => by
    have hr := run_loadVar_row W g 27 27 m.cells (0, 0) _ (hS W hW) Tryd.underlying27 rfl (size27 hl)
    unfold execOp
    simp only [ho, hx, Instr.loadAt, Instr.sureAddr, Sem.run_bind, Sem.run_pure, Result.andThen_ok, hr]⟩
theorem step_store {w : World} {ops : Array Oper} {o : Oper} {a : Act} {K : Act → World → Prop} {Q : Exit → Act → World → Prop} {E : Prop} (hgd : o.guard = none) (x y : Operand) (ho : o.op = .store 27 x y)
    (g : Nat) (m : Mn) (hx : a.eval x = .pointer (some ⟨g, 0, none⟩)) (hy : a.eval y = .agg m.cells) (old : Mn) (hg : Has w g 27 old.cells) (hl : m.dig.length = 32) (hl' : old.dig.length = 32)
    (h : K (a.put o.dst undef) (w.setRow g m.cells)) : if Region.wanted o (yielded ops a.tmps) = true then Oper.wp Tryd.prog o a w K Q else E := by
  have hw : Region.wanted o (yielded ops a.tmps) = true := by simp [Region.wanted, hgd]
  rw [if_pos hw]
  exact wp_store_row 27 x y ho g m.cells hx hy 27 old.cells hg (size27 hl) (old27 hl' hl) (mn_all _) h
theorem right_is {zs : List Int} (hz : zs.length = 92) (hm : zs.take 4 = markL) : rightB (told zs) = decide (Good zs) := by
  rw [Bool.eq_iff_iff]
  unfold rightB
  simp only [Bool.and_eq_true, decide_eq_true_eq]
  exact ⟨fun ⟨a, b, c⟩ => ⟨hz, hm, a, b, c⟩, fun ⟨_, _, a, b, c⟩ => ⟨a, b, c⟩⟩
/-- What Read answers. -/
def ReadsM (zs : List Int) (w : World) (e : Ending) (w' : World) : Prop := ∃ v, e = .returned (.tuple #[.agg (readM zs).cells, v, .int .i64 (readE zs)]) ∧ Own w' w.heap.size v (readT zs).length (readT zs) ∧ Below w.heap.size w w'
theorem reads_none {zs : List Int} {w w' : World} (h : ¬ Good zs) (hb : Below w.heap.size w w') : ReadsM zs w (.returned (.tuple #[.agg zeroM.cells, .slice none 0 0, .int .i64 6])) w' :=
  ⟨.slice none 0 0, by rw [readM_no h, readE_no h], by rw [readT_no h]; exact own_nil _ _, hb⟩
set_option maxRecDepth 100000 in
set_option maxHeartbeats 4000000 in
theorem read_any (A : Option Addr) (n c : Nat) (zs : List Int) (w : World) (hr : Row w A n zs) (hc : n ≤ c) (hn : n ≤ 1000000) : Calls Tryd.prog 8 #[.slice A n c] w (ReadsM zs w) := by
  have hz27 := zero27_run
  have ba : Below w.heap.size w (w.alloc (.cells zeroM.cells 27)) := (Below.refl _ _).alloc (Nat.le_refl _) _
  have h0 := has_new w 27 zeroM.cells
  by_cases h92 : n = 92
  · subst h92
    obtain ⟨b, off, rfl, hbw, hcell⟩ := row_open hr (by omega)
    have hl := hr.1
    have hB := Lib.hid hr.2.1
    have bm : Below w.heap.size w ((w.alloc (.cells zeroM.cells 27)).alloc (.cells #[.int .u8 87, .int .u8 76, .int .u8 77, .int .u8 49] 5 (4, 5))) := ba.alloc (by simp) _
    have hm0 := mark_row (w.alloc (.cells zeroM.cells 27))
    rw [World.size_alloc] at hm0
    have hcv := Lib.run_convert_bytes_const (P := Tryd.prog) (w.alloc (.cells zeroM.cells 27)) 22 5 #[.int .u8 87, .int .u8 76, .int .u8 77, .int .u8 49] 4 4 Tryd.underlying22 Tryd.underlying5
    simp only [World.size_alloc] at hcv
    have HP := Lib.hid (prefix_any (some ⟨b, off, none⟩) 92 c zs _ markL _ (row_below bm hr) (by omega) hc hm0)
    have HRR := Lib.hid hr
    clear hr hcell hm0
    by_cases hmk : zs.take 4 = markL
    · have HMK := Lib.hid hmk
      rw [decide_eq_true hmk] at HP
      clear hmk
      have r4 := row_from HRR.out 4 (by omega)
      have HNR := Lib.hid (newReader_any _ (92 - 4) (c - 4) (zs.drop 4) _ (row_below bm r4) (by omega))
      have hbx : ∀ x : Bool, rightB (told zs) = x → Calls Tryd.prog 8 #[.slice (some ⟨b, off, none⟩) 92 c] w (ReadsM zs w) := by
        intro x hx
        cases x with
        | false =>
          have HG := Lib.hid (show ¬ Good zs from fun g => by rw [right_is hl HMK.out, decide_eq_true g] at hx; cases hx)
          go_enter Tryd.func8, Tryd.ntmps8
          go_wp2_with (first
            | (go_at_call 19; (with_reducible refine HP.out.mono ?_); rintro e w1 ⟨rfl, rfl⟩; clear HP)
            | (go_at_call 20; (with_reducible refine HNR.out.mono ?_); rintro e w2 ⟨p, rfl, hp, hd, b2⟩; clear HNR; have hlt := hd.at; have h2 : Has w2 w.heap.size 27 zeroM.cells := (h0.more _).kept b2; have c2 := bm.trans (b2.mono bm.size); have HRB := Lib.hid (readBody_any w2 hl hB.out hd); simp only [World.size_alloc] at hp)
            | (go_at_call 21; (with_reducible refine HRB.out.mono ?_); rintro e w3 ⟨rfl, t3⟩; clear HRB; have h3 := h2.only t3.2 (by omega); have c3 : Below w.heap.size w w3 := c2.trans (t3.2.to_below c2.size (fun b e => by omega)); have hne := has_new w3 27 zeroM.cells)
            | (refine Sha.wpList_row rfl 27 _ _ rfl w3.heap.size (told zs).cells rfl rfl 27 _ hne (size27 (dig_len hl)) (old27 zero_len (dig_len hl)) (mn_all _) ?_; intro w4 hs4 hon4; have c4 := Sha.below_only (c3.alloc c3.size (.cells zeroM.cells 27)) hon4 c3.size (c3.alloc c3.size (.cells zeroM.cells 27)).size; have h4 : Has w4 w.heap.size 27 zeroM.cells := (hon4.block _ (h3.more _).size (by have := h3.size; intro e; injection e; omega)).trans (h3.more _); have HRT := Lib.hid (right_any (told zs) w4); rw [hx] at HRT)
            | (refine wpList_load_row rfl 27 _ rfl w3.heap.size rfl 27 _ (0, 0) _ hs4 Tryd.underlying27 rfl (size27 (dig_len hl)) ?_)
            | (go_at_call 22; (with_reducible refine HRT.out.mono ?_); rintro e w5 ⟨rfl, b5⟩; clear HRT; have h5 := h4.kept b5; have c5 := c4.trans (b5.mono c4.size))
            | (refine Sha.wpList_build_to rfl 27 _ rfl _ built27 ?_)
            | (refine wpList_store_row rfl 27 _ _ rfl w.heap.size zeroM.cells rfl rfl 27 _ h5 (size27 zero_len) rfl (mn_all _) ?_))
          exact bodyPost_ret (results_row3 (p := 2) (u := 3) (v := 4) rfl _ _ w.heap.size zeroM rfl (setRow_heap _ _ _ _ _ _ h5) zero_len) rfl (reads_none HG.out (below_setRow c5 (Nat.le_refl _) _))
        | true =>
          have HG := Lib.hid (show Good zs from by rw [right_is hl HMK.out] at hx; exact of_decide_eq_true hx)
          go_enter Tryd.func8, Tryd.ntmps8
          go_wp2_with (first
            | (go_at_call 19; (with_reducible refine HP.out.mono ?_); rintro e w1 ⟨rfl, rfl⟩; clear HP)
            | (go_at_call 20; (with_reducible refine HNR.out.mono ?_); rintro e w2 ⟨p, rfl, hp, hd, b2⟩; clear HNR; have hlt := hd.at; have h2 : Has w2 w.heap.size 27 zeroM.cells := (h0.more _).kept b2; have c2 := bm.trans (b2.mono bm.size); have HRB := Lib.hid (readBody_any w2 hl hB.out hd); simp only [World.size_alloc] at hp)
            | (go_at_call 21; (with_reducible refine HRB.out.mono ?_); rintro e w3 ⟨rfl, t3⟩; clear HRB; have h3 := h2.only t3.2 (by omega); have c3 : Below w.heap.size w w3 := c2.trans (t3.2.to_below c2.size (fun b e => by omega)); have hne := has_new w3 27 zeroM.cells)
            | (refine Sha.wpList_row rfl 27 _ _ rfl w3.heap.size (told zs).cells rfl rfl 27 _ hne (size27 (dig_len hl)) (old27 zero_len (dig_len hl)) (mn_all _) ?_; intro w4 hs4 hon4; have c4 := Sha.below_only (c3.alloc c3.size (.cells zeroM.cells 27)) hon4 c3.size (c3.alloc c3.size (.cells zeroM.cells 27)).size; have h4 : Has w4 w.heap.size 27 zeroM.cells := (hon4.block _ (h3.more _).size (by have := h3.size; intro e; injection e; omega)).trans (h3.more _); have HRT := Lib.hid (right_any (told zs) w4); rw [hx] at HRT)
            | (refine wpList_load_row rfl 27 _ rfl w3.heap.size rfl 27 _ (0, 0) _ hs4 Tryd.underlying27 rfl (size27 (dig_len hl)) ?_)
            | (go_at_call 22; (with_reducible refine HRT.out.mono ?_); rintro e w5 ⟨rfl, b5⟩; clear HRT; have h5 := h4.kept b5; have c5 := c4.trans (b5.mono c4.size); have hs5 := Has.kept (sha_has hs4) b5; have hd5 : Rd w5 p p ⟨zs.drop 60, false⟩ := ((t3.1.only (P := fun _ => False) (Only.of_below ((Below.refl _ _).alloc (Nat.le_refl _) (.cells zeroM.cells 27))) (fun b hb => hb.elim)).only (only_grown hon4) (fun b e => by have := t3.1.at; omega)).only (P := fun _ => False) (Only.of_below b5) (fun b hb => hb.elim)))
          have hp3 : p < w3.heap.size := t3.1.at
          have hw3 : w.heap.size < w3.heap.size := h3.size
          have bd : Below w5.heap.size w5 w5.drew := (Below.refl _ _).drew
          have HD := Lib.hid (hd5.only (P := fun _ => False) (Only.of_below bd) (fun b hb => hb.elim))
          have HH := Lib.hid (hs5.kept bd)
          have HZ := Lib.hid (h5.kept bd)
          have HR7 := Lib.hid (rraw_k 60 32 32 cutN32 (by omega) _ HD.out)
          have HL7 := Lib.hid (show ((zs.drop 60).take 32).length = 32 by rw [List.length_take, List.length_drop]; omega)
          have HT7 := Lib.hid (show (zs.drop 60).take 32 = zs.drop 60 from List.take_of_length_le (by rw [List.length_drop]; omega))
          have HS7 := Lib.hid (Only.refl (fun b => b = p ∨ b = w.heap.size) w5.drew)
          have HC7 := Lib.hid (c5.trans (bd.mono c5.size))
          clear hs4 hs5 hd5 h4 h5 t3 hon4 h3 h2 hd
          refine wp_region_held_drew (S := fun W => Only (fun b => b = p ∨ b = w.heap.size) w5.drew W) (by kernel_rfl) HS7.out ?_
          intro _
          refine wpAnyH_take (i := 0) (v := .agg (told zs).cells) rfl (by kernel_rfl) (by kernel_rfl) (by kernel_rfl) (fun _ _ _ h => h) (yields_mn (by rfl) (.tmp 6) rfl w3.heap.size rfl (told zs) (fun W hW => Has.only HH.out hW (by omega)) (dig_len hl)) HS7.out ?_
          simp only [List.getElem_toArray, List.getElem_cons_succ, List.getElem_cons_zero, Act.put, List.setIfInBounds_toArray, List.set_cons_zero, List.set_cons_succ]
          refine wpAnyH_take (i := 1) (v := .pointer (some ⟨p, 0, none⟩)) rfl (by kernel_rfl) (by kernel_rfl) (by kernel_rfl) (fun _ _ _ h => h) (Or.inl ⟨by rfl, (fun W _ => by go_simp)⟩) HS7.out ?_
          simp only [List.getElem_toArray, List.getElem_cons_succ, List.getElem_cons_zero, Act.put, List.setIfInBounds_toArray, List.set_cons_zero, List.set_cons_succ]
          refine wpAnyH_ready (rs := [2]) (by kernel_rfl) (by simp) ?_
          refine AllReadyH.cons rfl (fun K hK => ?_) AllReadyH.nil
          go_simp
          refine (HR7.out).mono ?_
          rintro e w8 ⟨v8, rfl, o8, t8⟩; have HZ8 := Lib.hid (Has.only HZ.out t8.2 (by omega)); have HS8 := Lib.hid (show Only (fun b => b = p ∨ b = w.heap.size) w5.drew w8 from t8.2.mono (fun b e => .inl e)); rw [HL7.out, HT7.out] at o8; obtain ⟨A8, c8, rfl, hc8, r8, _⟩ := o8.form
          refine hK.out _ _ HS8.out (fun _ => ?_)
          clear hK K
          refine wpAnyH_ready (rs := [3]) (by kernel_rfl) (by simp) ?_
          refine AllReadyH.cons rfl (fun K hK => ?_) AllReadyH.nil
          refine step_store rfl (.tmp 2) (.tmp 27) rfl w.heap.size (told zs) rfl rfl zeroM HZ8.out (dig_len hl) zero_len ?_
          have HS9 := Lib.hid (show Only (fun b => b = p ∨ b = w.heap.size) w5.drew (w8.setRow w.heap.size (told zs).cells) from HS8.out.setRow (.inr rfl) _)
          refine hK.out _ _ HS9.out (fun _ => ?_)
          clear hK K
          refine wpAnyH_take (i := 4) (v := .slice A8 32 c8) rfl (by kernel_rfl) (by kernel_rfl) (by kernel_rfl) (fun _ _ _ h => h) (Or.inl ⟨by rfl, (fun W _ => by go_simp)⟩) HS9.out ?_
          simp only [List.getElem_toArray, List.getElem_cons_succ, List.getElem_cons_zero, Act.put, List.setIfInBounds_toArray, List.set_cons_zero, List.set_cons_succ]
          refine wpAnyH_take (i := 5) (v := .int .i64 0) rfl (by kernel_rfl) (by kernel_rfl) (by kernel_rfl) (fun _ _ _ h => h) (Or.inl ⟨by rfl, (fun W _ => by go_simp)⟩) HS9.out ?_
          simp only [List.getElem_toArray, List.getElem_cons_succ, List.getElem_cons_zero, Act.put, List.setIfInBounds_toArray, List.set_cons_zero, List.set_cons_succ]
          refine wpAnyH_done (by kernel_rfl) ?_ _
          have c9 : Below w.heap.size w (w8.setRow w.heap.size (told zs).cells) := HC7.out.trans (HS9.out.to_below HC7.out.size (fun b e => by omega))
          have o9 : Own (w8.setRow w.heap.size (told zs).cells) w.heap.size (.slice A8 32 c8) 32 (zs.drop 60) := (o8.stay (fun g hg => by have hx := o8.block g hg; have hy := HC7.out.size; have hq := (HZ.out : Has w5.drew w.heap.size 27 zeroM.cells).size; exact setRow_other w8 w.heap.size g _ (by omega))).lower (by have := HC7.out.size; exact this)
          have h9 : Has (w8.setRow w.heap.size (told zs).cells) w.heap.size 27 (told zs).cells := setRow_heap _ _ _ _ _ _ HZ8.out
          clear HS7 HS8 HS9 HH HZ HZ8 HD HR7 HC7 t8 o8
          go_wp2
          exact bodyPost_ret (results_row3 (p := 2) (u := 3) (v := 4) rfl _ _ w.heap.size (told zs) rfl h9 (dig_len hl)) rfl ⟨_, by rw [readM_yes HG.out, readE_yes HG.out]; rfl, by rw [readT_yes HG.out, List.length_drop, hl]; exact o9, c9⟩
      exact hbx _ rfl
    · have HG := Lib.hid (show ¬ Good zs from fun g => hmk g.2.1)
      rw [decide_eq_false hmk] at HP
      clear hmk
      go_enter Tryd.func8, Tryd.ntmps8
      go_wp2_with (first
        | (go_at_call 19; (with_reducible refine HP.out.mono ?_); rintro e w1 ⟨rfl, rfl⟩)
        | (refine Sha.wpList_build_to rfl 27 _ rfl _ built27 ?_)
        | (refine wpList_store_row rfl 27 _ _ rfl w.heap.size zeroM.cells rfl rfl 27 _ (h0.more _) (size27 zero_len) rfl (mn_all _) ?_))
      exact bodyPost_ret (results_row3 (p := 2) (u := 3) (v := 4) rfl _ _ w.heap.size zeroM rfl (setRow_heap _ _ _ _ _ _ (h0.more _)) zero_len) rfl (reads_none HG.out (below_setRow bm (Nat.le_refl _) _))
  · have HG := Lib.hid (not_good (zs := zs) (by rw [hr.1]; exact h92))
    have hne : ¬ (n : Int) = 92 := by omega
    clear hr h92
    go_enter Tryd.func8, Tryd.ntmps8
    go_wp2_with (first
      | (refine Sha.wpList_build_to rfl 27 _ rfl _ built27 ?_)
      | (refine wpList_store_row rfl 27 _ _ rfl w.heap.size zeroM.cells rfl rfl 27 _ h0 (size27 zero_len) rfl (mn_all _) ?_))
    exact bodyPost_ret (results_row3 (p := 2) (u := 3) (v := 4) rfl _ _ w.heap.size zeroM rfl (setRow_heap _ _ _ _ _ _ h0) zero_len) rfl (reads_none HG.out (below_setRow ba (Nat.le_refl _) _))
end Go.Proofs.YtjfalnhmmofdfaaDoor
