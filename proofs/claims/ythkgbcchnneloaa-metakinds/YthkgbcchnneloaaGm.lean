/-
  How what is kept is read, the document's ReadMeta; conditions: the row reads as bytes.
-/
import Derived.Test.YthkgbcchnneloaaGi
import Derived.Test.YthkgbcchnneloaaRe
import Derived.Test.YthkgbcchnneloaaXq
namespace Go.Proofs.Ythkgbcchnneloaa
open Go.RowKit
set_option linter.unusedVariables false
set_option linter.unusedSimpArgs false

theorem rbad_any {p T : Nat} {S : Rs} (w : World) (hS : Rr w p T S) : Calls Try.prog 25 #[.pointer (some ⟨p, 0, none⟩)] w fun e w' => e = .returned (.bool S.bad) ∧ w = w' := by
  obtain ⟨hok, hT, hle, A, n, c, zs, hh, hr, hc, hA, hz⟩ := hS
  have q1 : w.cell? ⟨p, 1, none⟩ = some (.bool S.bad) := hh.at 1
  go_enter Try.func25, Try.ntmps25
  go_wp2
  go_ret
  exact ⟨rfl, rfl⟩
/-- What is read so far lies in block h, the answer in the first one of the call's own; and the reader. -/
def GM (w0 : World) (p h k : Nat) (zs : List Int) (m : Mt) (w : World) : Prop :=
  Rr w p w0.heap.size (St zs k) ∧ Has w h 27 m.cells ∧ Has w w0.heap.size 27 zeroT.cells ∧ Below w0.heap.size w0 w ∧ w0.heap.size < p ∧ p < h
theorem gm_call {w0 w w' : World} {p h k k' : Nat} {zs : List Int} {m : Mt} (g : GM w0 p h k zs m w) (hc : RrTo p w0.heap.size (St zs k') w w') : GM w0 p h k' zs m w' := by
  obtain ⟨h1, h2, h3, h4, h5, h6⟩ := g
  exact ⟨hc.1, h2.only hc.2 (by omega), h3.only hc.2 (by omega), h4.trans (hc.2.to_below h4.size (fun b e => by omega)), h5, h6⟩
theorem gm_to {w0 w w' : World} {p h k : Nat} {zs : List Int} {m m' : Mt} (g : GM w0 p h k zs m w) (hg : Has w' h 27 m'.cells) (o : Only (fun b => b = h) w w') : GM w0 p h k zs m' w' := by
  obtain ⟨h1, h2, h3, h4, h5, h6⟩ := g
  exact ⟨h1.only o (fun b e => by omega), hg, h3.only o (by omega), h4.trans (o.to_below h4.size (fun b e => by omega)), h5, h6⟩
theorem gm_put {w0 w : World} {p h k : Nat} {zs : List Int} {m m' : Mt} (g : GM w0 p h k zs m w) (j : Nat) (v : Value) (e : m.cells.setIfInBounds j v = m'.cells) : GM w0 p h k zs m' (w.setCell ⟨h, j, none⟩ v) := by
  have h2' := g.2.1.put j v
  rw [e] at h2'
  exact gm_to g h2' ((Only.refl (fun b => b = h) w).setCell (q := ⟨h, j, none⟩) rfl v)
theorem wpList_build27 {w : World} {ops : Array Oper} {rest : List Oper} {o : Oper} {a : Act} {Q : Exit → Act → World → Prop} (hg : o.guard = none) (x : Operand) (ho : o.op = .build 27 #[(0, x)]) (v : Int)
    (hx : a.eval x = .int .i64 v) (h : wpList Try.prog ops Q rest (a.put o.dst (.agg (Mt.cells ⟨v, zeroI, zeroI, 0, 0, zeroI, 0, 0⟩))) w) : wpList Try.prog ops Q (o :: rest) a w := by
  refine wpList_build_to hg 27 _ ho _ ?_ h
  have e : (Array.map (fun (i, x) => (i, a.eval x)) #[(0, x)]).toList = [(0, .int .i64 v)] := by simp [hx]
  rw [e]
  exact built27a v
/-- Nothing is missing, and so many bytes behind are 0. -/
def okAt (zs : List Int) (k : Nat) : Bool := !(St zs 128).bad && ((zs.drop 128).take (k - 128)).all (fun x => x == 0)
theorem okAt_low {zs : List Int} (h : zs.length < 128) (k : Nat) : okAt zs k = false := by unfold okAt; rw [st_low h]; rfl
theorem okAt_start (zs : List Int) : okAt zs 128 = !(St zs 128).bad := by unfold okAt; simp
theorem okAt_more {zs : List Int} {k : Nat} (h1 : 128 ≤ k) (h2 : k < zs.length) : okAt zs (k + 1) = (okAt zs k && (zs.getD k 0 == 0)) := by
  unfold okAt
  have e : (zs.drop 128).take (k + 1 - 128) = (zs.drop 128).take (k - 128) ++ [zs.getD k 0] := by
    have h := take_more (zs.drop 128) (k - 128) (by rw [List.length_drop]; omega)
    rw [show k + 1 - 128 = k - 128 + 1 by omega, ← h, getD_drop, show 128 + (k - 128) = k by omega]
  rw [e, List.all_append]
  simp [Bool.and_assoc]
theorem okAt_end {zs : List Int} (h : 128 ≤ zs.length) {k : Nat} (hk : zs.length ≤ k) : okAt zs k = (zs.drop 128).all (fun x => x == 0) := by
  unfold okAt
  rw [st_fine h, List.take_of_length_le (by rw [List.length_drop]; omega)]
  rfl
set_option maxRecDepth 100000 in
set_option maxHeartbeats 8000000 in
theorem docRead_any (A : Option Addr) (n c : Nat) (zs : List Int) (w : World) (hr : Row w A n zs) (hc : n ≤ c) (hn : n ≤ 1000000) : Calls Try.prog 10 #[.slice A n c] w (ReadsM zs w) := by
  have hz27 := zero27_run
  have HL := Lib.hid hr.1
  have HB := Lib.hid hr.2.1
  have HRW := Lib.hid hr
  have C0 : Hid (Below w.heap.size w (w.alloc (.cells zeroT.cells 27))) := Lib.hid ((Below.refl _ _).alloc (Nat.le_refl _) _)
  have H0 := Lib.hid (has_new w 27 zeroT.cells)
  have HNR0 := rnewReader_any A n c zs _ (row_below C0.out hr) hn hc w.heap.size C0.out.size (row_lies hr)
  simp only [World.size_alloc] at HNR0
  obtain ⟨p, hp⟩ : ∃ p, w.heap.size + 1 = p := ⟨_, rfl⟩
  rw [hp] at HNR0
  have HNR := Lib.hid HNR0
  have HP := Lib.hid hp
  have K1 := Lib.hid (seqT_ok HB.out 1)
  have I1 := Lib.hid (imgS_ok HB.out 1)
  have I2 := Lib.hid (imgS_ok HB.out 41)
  have I3 := Lib.hid (imgS_ok HB.out 86)
  clear HNR0 hr hp
  go_enter Try.func10, Try.ntmps10
  go_wp2_with (first
    | (go_at_call 22; (with_reducible refine HNR.out.mono ?_); rintro e w1 ⟨rfl, d1, b1⟩; clear HNR; have C1 := Lib.hid (C0.out.trans (b1.mono (by have := HP.out; omega))); have Z1 := Lib.hid (H0.out.below b1 (by have := HP.out; omega)); rw [← st_zero zs] at d1; have HQ1 := Lib.hid (rnum_k 0 1 1 cut8n1 (by omega) w1 d1); clear d1 b1)
    | (go_at_call 23; (with_reducible refine HQ1.out.mono ?_); rintro e w2 ⟨rfl, t2⟩; clear HQ1; have C2 := Lib.hid (C1.out.trans (t2.2.to_below C1.out.size (fun b e => by have := HP.out; omega))); have Z2 := Lib.hid (Has.only Z1.out t2.2 (by have := HP.out; omega)); have D2 := Lib.hid t2.1; clear t2; have hne := has_new w2 27 zeroT.cells)
    | (refine wpList_build27 rfl (.tmp 11) rfl (stN zs 0 1) rfl ?_)
    | (refine wpList_row rfl 27 _ _ rfl w2.heap.size (seqT zs 1).cells rfl rfl 27 _ hne (size27 K1.out) (old27 zeroT_ok K1.out) (mt_all _) ?_; intro w3 hs3 on3; have HH := Lib.hid (show w.heap.size < p ∧ p < w2.heap.size from ⟨by have := HP.out; omega, D2.out.at⟩); have GA := Lib.hid (show GM w p w2.heap.size 1 zs (seqT zs 1) w3 by
        have b3 : Below w2.heap.size w2 w3 := ((Below.refl w2.heap.size w2).alloc (Nat.le_refl _) (.cells zeroT.cells 27)).trans (on3.to_below (by simp) (fun b e => by omega))
        exact ⟨D2.out.only (P := fun _ => False) (Only.of_below b3) (fun b hb => hb.elim), hs3, Z2.out.kept b3, C2.out.trans (b3.mono C2.out.size), HH.out.1, HH.out.2⟩); clear hs3 on3 hne Z2 C2 D2 C1 Z1; have HG1 := Lib.hid (getImage_any w3 HB.out GA.out.1))
    | (go_at_call 24; (with_reducible refine HG1.out.mono ?_); rintro e w4 ⟨rfl, t4⟩; clear HG1; have GB := Lib.hid (gm_call GA.out t4); clear GA t4)
    | (refine wpList_st24 rfl _ _ rfl w2.heap.size 1 (imgS zs 1) rfl rfl (seqT zs 1) (seqT zs 2) (seqT_ok HB.out 1) I1.out GB.out.2.1 (puts_1 HB.out) (by omega) ?_; intro w5 hs5 on5; have GC := Lib.hid (gm_to GB.out hs5 on5); clear GB hs5 on5; have HG2 := Lib.hid (getImage_any w5 HB.out GC.out.1))
    | (go_at_call 24; (with_reducible refine HG2.out.mono ?_); rintro e w6 ⟨rfl, t6⟩; clear HG2; have GD := Lib.hid (gm_call GC.out t6); clear GC t6)
    | (refine wpList_st24 rfl _ _ rfl w2.heap.size 35 (imgS zs 41) rfl rfl (seqT zs 2) (seqT zs 3) (seqT_ok HB.out 2) I2.out GD.out.2.1 (puts_2 HB.out) (by omega) ?_; intro w7 hs7 on7; have GE := Lib.hid (gm_to GD.out hs7 on7); clear GD hs7 on7; have HQ2 := Lib.hid (rnum_k 81 4 4 cut8n4 (by omega) w7 GE.out.1))
    | (go_at_call 23; (with_reducible refine HQ2.out.mono ?_); rintro e w8 ⟨rfl, t8⟩; clear HQ2; have GF := Lib.hid (gm_call GE.out t8); clear GE t8; have q8 : w8.cell? ⟨w2.heap.size, 69, none⟩ = some (.int .i64 0) := (GF.out.2.1.at 69).trans (mt_least (seqT_ok HB.out 3)); have f8 := GF.out.2.1.soft 69; have GG := Lib.hid (gm_put (m' := seqT zs 4) GF.out 69 (.int .i64 (stN zs 81 4)) (sets_3 HB.out)); clear GF; have HQ3 := Lib.hid (rnum_k 85 1 1 cut8n1 (by omega) _ GG.out.1))
    | (go_at_call 23; (with_reducible refine HQ3.out.mono ?_); rintro e w9 ⟨rfl, t9⟩; clear HQ3 q8 f8; have GH := Lib.hid (gm_call GG.out t9); clear GG t9; have q9 : w9.cell? ⟨w2.heap.size, 70, none⟩ = some (.int .i64 0) := (GH.out.2.1.at 70).trans (mt_phase (seqT_ok HB.out 4)); have f9 := GH.out.2.1.soft 70; have GI9 := Lib.hid (gm_put (m' := seqT zs 5) GH.out 70 (.int .i64 (stN zs 85 1)) (sets_4 HB.out)); clear GH; have HG3 := Lib.hid (getImage_any _ HB.out GI9.out.1))
    | (go_at_call 24; (with_reducible refine HG3.out.mono ?_); rintro e w10 ⟨rfl, t10⟩; clear HG3 q9 f9; have GJ := Lib.hid (gm_call GI9.out t10); clear GI9 t10)
    | (refine wpList_st24 rfl _ _ rfl w2.heap.size 71 (imgS zs 86) rfl rfl (seqT zs 5) (seqT zs 6) (seqT_ok HB.out 5) I3.out GJ.out.2.1 (puts_5 HB.out) (by omega) ?_; intro w11 hs11 on11; have GK := Lib.hid (gm_to GJ.out hs11 on11); clear GJ hs11 on11; have HQ4 := Lib.hid (rnum_k 126 1 1 cut8n1 (by omega) _ GK.out.1))
    | (go_at_call 23; (with_reducible refine HQ4.out.mono ?_); rintro e w12 ⟨rfl, t12⟩; clear HQ4; have GL := Lib.hid (gm_call GK.out t12); clear GK t12; have q12 : w12.cell? ⟨w2.heap.size, 105, none⟩ = some (.int .i64 0) := (GL.out.2.1.at 105).trans (mt_gott (seqT_ok HB.out 6)); have f12 := GL.out.2.1.soft 105; have GN := Lib.hid (gm_put (m' := seqT zs 7) GL.out 105 (.int .i64 (stN zs 126 1)) (sets_6 HB.out)); clear GL; have HQ5 := Lib.hid (rnum_k 127 1 1 cut8n1 (by omega) _ GN.out.1))
    | (go_at_call 23; (with_reducible refine HQ5.out.mono ?_); rintro e w13 ⟨rfl, t13⟩; clear HQ5 q12 f12; have GO := Lib.hid (gm_call GN.out t13); clear GN t13; have q13 : w13.cell? ⟨w2.heap.size, 106, none⟩ = some (.int .i64 0) := (GO.out.2.1.at 106).trans (mt_trials (seqT_ok HB.out 7)); have f13 := GO.out.2.1.soft 106; have GP := Lib.hid (gm_put (m' := seqT zs 8) GO.out 106 (.int .i64 (stN zs 127 1)) (sets_7 HB.out)); clear GO; have HBD := Lib.hid (rbad_any _ GP.out.1))
    | (go_at_call 25; (with_reducible refine HBD.out.mono ?_); rintro e w14 ⟨rfl, rfl⟩; clear HBD))
  generalize hW : w13.setCell ⟨w2.heap.size, 106, none⟩ (.int .i64 (stN zs 127 1)) = W at *
  obtain ⟨h, hh⟩ : ∃ h, w2.heap.size = h := ⟨_, rfl⟩
  rw [hh] at GP ⊢
  clear hW q13 f13 HH hh
  have OKT := Lib.hid (toldS_ok HB.out)
  have GT := Lib.hid (show GM w p h 128 zs (toldS zs) W from GP.out)
  clear GP
  have RW := Lib.hid (row_lt HRW.out (Nat.le_refl _) GT.out.2.2.2.1)
  have SB := Lib.hid (okAt_start zs)
  go_loopw [6, 7] (fun v i wr => ∃ k : Nat, 128 ≤ k ∧ k ≤ 1000000 ∧ (k ≤ n ∨ k = 128) ∧ v = .bool (okAt zs k) ∧ i = .int .i64 (k : Int) ∧ wr = W) (fun _ i _ => n - (intOf i).toNat)
  case atStart => exact ⟨128, by omega, by omega, .inr rfl, by rw [SB.out], rfl, rfl⟩
  case round =>
    obtain ⟨k, hk0, hkm, hk, rfl, rfl, rfl⟩ := hrel
    by_cases hlt : k < n
    · obtain ⟨b, off, rfl, hbw, hcell⟩ := row_open RW.out (by omega)
      have hck := hcell k hlt
      have i0 : (0 : Int) ≤ (k : Int) := by omega
      have i1 : (k : Int) < (n : Int) := by omega
      have HM := Lib.hid (okAt_more (zs := zs) (k := k) hk0 (by have := HL.out; omega))
      clear hcell
      cases ho : okAt zs k with
      | false =>
        have HE : Hid (okAt zs (k + 1) = false) := Lib.hid (by rw [HM.out, ho]; rfl)
        clear ho
        go_wp2
        go_roundw
        case rel => exact ⟨k + 1, by omega, by omega, .inl (by omega), by rw [HE.out], by go_num, by first | rfl | trivial⟩
        case measure => simp [intOf]; omega
      | true =>
        have HE : Hid (okAt zs (k + 1) = (zs.getD k 0 == 0)) := Lib.hid (by rw [HM.out, ho]; rfl)
        clear ho
        generalize zs.getD k 0 = z at *
        go_wp2
        go_roundw
        case rel => exact ⟨k + 1, by omega, by omega, .inl (by omega), by rw [HE.out], by go_num, by first | rfl | trivial⟩
        case measure => simp [intOf]; omega
    · have i1 : ¬ (k : Int) < (n : Int) := by omega
      have g0 : Has wr w.heap.size 27 zeroT.cells := GT.out.2.2.1
      have L1 := Lib.hid (ld27 GT.out.2.1 OKT.out)
      have CW := Lib.hid GT.out.2.2.2.1
      have HD := Lib.hid (docRight_any (toldS zs) wr OKT.out)
      cases ho : okAt zs k with
      | false =>
        have HG := Lib.hid (show ¬ Good zs from fun g => by
          rw [okAt_end g.1 (by have := HL.out; omega), g.2.1] at ho
          cases ho)
        clear ho hk
        go_wp2_with (first
          | (refine wpList_build_to rfl 27 _ rfl _ built27 ?_)
          | (refine wpList_store_row rfl 27 _ _ rfl w.heap.size zeroT.cells rfl rfl 27 _ g0 (size27 zeroT_ok) rfl (mt_all _) ?_))
        exact bodyPost_ret (results_row2 (p := 2) (u := 3) rfl _ _ w.heap.size zeroT rfl (setRow_heap _ _ _ _ _ _ g0) zeroT_ok) rfl (reads_none HG.out (below_setRow CW.out (Nat.le_refl _) _))
      | true =>
        have HLZ := Lib.hid (show 128 ≤ zs.length by
          by_cases h1 : zs.length < 128
          · rw [okAt_low h1] at ho; cases ho
          · omega)
        have HAL := Lib.hid (show (zs.drop 128).all (fun x => x == 0) = true by rw [← okAt_end HLZ.out (by have := HL.out; omega : zs.length ≤ k)]; exact ho)
        clear ho hk
        cases hx : rightB (toldS zs) with
        | false =>
          rw [hx] at HD
          have HG := Lib.hid (show ¬ Good zs from fun g => by have h := g.2.2; rw [hx] at h; cases h)
          clear hx
          go_wp2_with (first
            | (refine wpList_ld 27 _ rfl _ _ L1.out rfl rfl ?_)
            | (go_at_call 7; (with_reducible refine HD.out.mono ?_); rintro e w5 ⟨rfl, b5⟩; clear HD; have G5 := Lib.hid (Has.kept g0 b5); have C5 := Lib.hid (CW.out.trans (b5.mono CW.out.size)); clear b5)
            | (refine wpList_build_to rfl 27 _ rfl _ built27 ?_)
            | (refine wpList_store_row rfl 27 _ _ rfl w.heap.size zeroT.cells rfl rfl 27 _ G5.out (size27 zeroT_ok) rfl (mt_all _) ?_))
          exact bodyPost_ret (results_row2 (p := 2) (u := 3) rfl _ _ w.heap.size zeroT rfl (setRow_heap _ _ _ _ _ _ G5.out) zeroT_ok) rfl (reads_none HG.out (below_setRow C5.out (Nat.le_refl _) _))
        | true =>
          rw [hx] at HD
          have HG := Lib.hid (show Good zs from ⟨HLZ.out, HAL.out, hx⟩)
          clear hx
          go_wp2_with (first
            | (refine wpList_ld 27 _ rfl _ _ L1.out rfl rfl ?_)
            | (go_at_call 7; (with_reducible refine HD.out.mono ?_); rintro e w5 ⟨rfl, b5⟩; clear HD L1; have G5 := Lib.hid (Has.kept g0 b5); have L5 := Lib.hid (ld27 (Has.kept GT.out.2.1 b5) OKT.out); have C5 := Lib.hid (CW.out.trans (b5.mono CW.out.size)); clear b5)
            | (refine wpList_ld 27 _ rfl _ _ L5.out rfl rfl ?_)
            | (refine wpList_store_row rfl 27 _ _ rfl w.heap.size (toldS zs).cells rfl rfl 27 _ G5.out (size27 OKT.out) (old27 zeroT_ok OKT.out) (mt_all _) ?_))
          exact bodyPost_ret (results_row2 (p := 2) (u := 3) rfl _ _ w.heap.size (toldS zs) rfl (setRow_heap _ _ _ _ _ _ G5.out) OKT.out) rfl (reads_yes HG.out (below_setRow C5.out (Nat.le_refl _) _))
end Go.Proofs.Ythkgbcchnneloaa
