/-
  The walk of the law NorPlays: what any row of calls answers, every byte, and how often each sector was erased, whatever is cut; conditions: at most six sectors and sixty calls (more the law lets by).
-/
import Derived.Test.YtobjolcacopgbaaPl
namespace Go.Proofs.Ytobjolcacopgbaa
open Go.RowKit
set_option linter.unusedVariables false
set_option linter.unusedSimpArgs false
set_option maxRecDepth 100000 in
set_option maxHeartbeats 4000000 in
theorem plays_within (n : Int) (a : Option Addr) (len cap : Nat) (w : World) (hacts : Acts w a len) (h6 : n ≤ 6) (h60 : len ≤ 60) :
    Calls Try.prog 3 #[.int .i64 n, .slice a len cap] w fun e w' => e = .returned (.bool true) ∧ Below w.heap.size w w' := by
  have d0 : decide (6 < n) = false := by simp; omega
  have d1 : decide (60 < len) = false := by simp; omega
  have d2 : ¬ (60 : Int) < (len : Int) := by omega
  have HACTS := Lib.hid hacts
  clear hacts
  go_enter Try.func3, Try.ntmps3
  go_wp2_with (first
    | (go_at_call 8; refine (alive_any _).mono ?_; rintro e W1 ⟨rfl, H1⟩; have N1 := Lib.hid (new_any n W1))
    | (go_at_call_of 9 (Value.int .i64 n); (with_reducible refine N1.out.mono ?_); rintro e W2 ⟨g, m, k, rfl, hg, hm, hk, f2, b2⟩)
    | (go_at_call 9; (with_reducible refine (new_any 2 W2).mono ?_); rintro e W3 ⟨g2, m2, k2, rfl, hg2, hm2, hk2, f3, b3⟩)
    | (go_at_call 10; refine (rnew_any n _).mono ?_; rintro e W4 ⟨gr, mr, kr, rfl, hgr, hmr, hkr, f4, b4⟩))
  have hap : Apart3 W1.heap.size W4.heap.size g m k g2 m2 k2 gr mr kr := by
    have i2 := f2.in
    have i3 := f3.in
    have i4 := f4.in
    have s3 := b3.size
    have s4 := b4.size
    have s2 := b2.size
    have l2 : ∀ b, In3 g m k b → W1.heap.size ≤ b := by rintro b (rfl | rfl | rfl) <;> assumption
    have l3 : ∀ b, In3 g2 m2 k2 b → W2.heap.size ≤ b := by rintro b (rfl | rfl | rfl) <;> assumption
    have l4 : ∀ b, In3 gr mr kr b → W3.heap.size ≤ b := by rintro b (rfl | rfl | rfl) <;> assumption
    refine ⟨?_, fun b h1 h2 => ?_, fun b h1 h2 => ?_, fun b h1 h2 => ?_⟩
    · rintro b (h | h | h)
      · have := i2 b h; have := l2 b h; omega
      · have := i3 b h; have := l3 b h; omega
      · have := i4 b h; have := l4 b h; omega
    · have := i2 b h1; have := l3 b h2; omega
    · have := i2 b h1; have := l4 b h2; omega
    · have := i3 b h1; have := l4 b h2; omega
  have hst : Playing w W4.heap.size g m k g2 m2 k2 gr mr kr len (.int .i64 0) W4 := by
    have s3 := b3.size
    have s4 := b4.size
    refine ⟨0, _, _, _, rfl, Nat.zero_le _, ?_, ?_, ⟨((f2.kept b3).kept b4).raise rfl (by omega), (f3.kept b4).raise rfl (by omega), f4, fresh_sim _ _, few_fresh _, few_fresh _, few_fresh _⟩, H1.trans ((b2.trans ((b3.trans (b4.mono b3.size)).mono b2.size)).mono H1.size), Nat.le_refl _⟩
    · exact Nat.le_refl 0
    · exact Nat.le_refl 0
  have HAP := Lib.hid hap
  have hH1 := H1.size
  have HLOW := Lib.hid (show ∀ b, In3 g m k b ∨ In3 g2 m2 k2 b ∨ In3 gr mr kr b → w.heap.size ≤ b ∧ b < W4.heap.size from fun b hb => by have := hap.low b hb; omega)
  have hT0 : w.heap.size ≤ W4.heap.size := by have := HLOW.out g (.inl (.inl rfl)); omega
  generalize hT : W4.heap.size = T at *
  clear f2 b2 f3 b3 f4 b4 H1 N1 hg hm hk hg2 hm2 hk2 hgr hmr hkr hap hT
  go_loopw [9] (fun v wr => Playing w T g m k g2 m2 k2 gr mr kr len v wr) (fun v _ => len - (intOf v).toNat)
  case atStart => exact hst
  case round =>
    clear hst
    obtain ⟨j, S, O, R, rfl, hj, hS, hO, h3, hb, hTw⟩ := hrel
    have j0 : (0 : Int) ≤ (j : Int) := by omega
    by_cases hlt : j < len
    · have j1 : (j : Int) < (len : Int) := by omega
      obtain ⟨b, off, ha, hA⟩ : ∃ b off, a = some ⟨b, off, none⟩ ∧ ∃ way at' n BA BL BC bs MA ML MC ms, ActAt w b (off + j * 5) way at' n BA BL BC bs MA ML MC ms := by
        rcases HACTS.out with h | ⟨b, off, h1, h2⟩
        · omega
        · exact ⟨b, off, h1, h2 j hlt⟩
      obtain ⟨way, at', q, BA, BL, BC, bs, MA, ML, MC, ms, hA⟩ := hA
      subst ha
      have hA1 := hA.kept hb
      have c0 := hA1.c0
      have c1 := hA1.c1
      have c2 := hA1.c2
      have c3 := hA1.c3
      have c4 := hA1.c4
      have HA := Lib.hid hA
      have H3 := Lib.hid h3
      have HB := Lib.hid hb
      clear hA hA1 h3 hb HACTS
      by_cases g0 : 700 < BL
      · have e0 : decide (700 < BL) = true := by simpa using g0
        have e1 : (700 : Int) < (BL : Int) := by omega
        go_wp2_with fail
        go_ret
        exact ⟨rfl, HB.out.alloc HB.out.size _⟩
      have e0 : decide (700 < BL) = false := by simpa using g0
      have e1 : ¬ (700 : Int) < (BL : Int) := by omega
      by_cases g1 : 50 < ML
      · have e2 : decide (50 < ML) = true := by simpa using g1
        have e3 : (50 : Int) < (ML : Int) := by omega
        go_wp2_with fail
        go_ret
        exact ⟨rfl, HB.out.alloc HB.out.size _⟩
      have e2 : decide (50 < ML) = false := by simpa using g1
      have e3 : ¬ (50 : Int) < (ML : Int) := by omega
      obtain ⟨ab, hab⟩ : ∃ ab, wr.heap.size = ab := ⟨_, rfl⟩
      obtain ⟨cs, hcs⟩ : ∃ cs, actCells way at' q BA BL BC MA ML MC = cs := ⟨_, rfl⟩
      have hwa0 : Has (wr.alloc (.cells (actCells way at' q BA BL BC MA ML MC) 30)) wr.heap.size 30 (actCells way at' q BA BL BC MA ML MC) := has_new wr 30 _
      have HBa := Lib.hid (HB.out.alloc HB.out.size (.cells (actCells way at' q BA BL BC MA ML MC) 30))
      have H3a := Lib.hid (H3.out.kept ((Below.refl _ wr).alloc (Nat.le_refl _) (.cells (actCells way at' q BA BL BC MA ML MC) 30)))
      have hsa : wr.heap.size ≤ (wr.alloc (.cells (actCells way at' q BA BL BC MA ML MC) 30)).heap.size := by simp
      unfold actCells at hwa0 HBa H3a hsa
      have HER := Lib.hid (erase_any (bits .and .i64 (j : Int) 1) _ H3a.out.o (by omega) H3a.out.fo)
      have hopsO := erase_ops O (bits .and .i64 (j : Int) 1)
      go_upto_block 2 with (go_at_call 11; (with_reducible refine HER.out.mono ?_); rintro e Wo ⟨rfl, fo, oo⟩; have cw : Wo.cell? ⟨ab, 0, none⟩ = some (.int .i64 way) := (by rw [← hab]; exact (hwa0.only oo (fun x => by have := (HLOW.out _ (.inr (.inl x))).2; omega)).at 0))
      have HFO := Lib.hid (few_erase H3a.out.fo (bits .and .i64 (j : Int) 1))
      have H3o := Lib.hid (H3a.out.of_o HAP.out ⟨fo, oo⟩ HFO.out)
      have hoo := oo.size
      have HHo := Lib.hid (show Has Wo ab 30 cs by rw [← hab, ← hcs]; exact hwa0.only oo (fun x => by have := (HLOW.out _ (.inr (.inl x))).2; omega))
      have HBo := Lib.hid (HBa.out.trans (oo.to_below HBa.out.size fun b hb => (HLOW.out b (.inr (.inl hb))).1))
      have hTo : T ≤ Wo.heap.size := by omega
      have hTab : T ≤ ab := by omega
      generalize (erase O (bits .and .i64 (j : Int) 1)).2 = O' at *
      clear fo oo HER HBa H3a hwa0 H3 c0 c1 c2 c3 c4 hsa
      obtain ⟨d, hd⟩ : ∃ d, len - j = d + 1 := ⟨len - j - 1, by omega⟩
      rw [hd] at H3o
      go_cut [10] from 36 to 173 (fun s10 wx => s10 = .pointer (some ⟨ab, 0, none⟩) ∧ After w T g m k g2 m2 k2 gr mr kr d (j + 1) ab cs wx)
      case first =>
        by_cases w0 : way = 0
        · subst w0
          have HC5 := Lib.hid (show ∀ W, Has W ab 30 cs → W.cell? ⟨ab, 0, none⟩ = some (.int .i64 0) ∧ W.cell? ⟨ab, 1, none⟩ = some (.int .i64 at') ∧ W.cell? ⟨ab, 2, none⟩ = some (.int .i64 q) ∧ W.cell? ⟨ab, 3, none⟩ = some (.slice BA BL BC) ∧ W.cell? ⟨ab, 4, none⟩ = some (.slice MA ML MC) from fun W hW => by rw [← hcs] at hW; exact act_cells hW)
          have HIN := Lib.hid (show Clear gr mr kr BA BL ∧ Clear gr mr kr MA ML from ⟨clear_in HA.out.rb (fun b hb => (HLOW.out b (.inr (.inr hb))).1), clear_in HA.out.rm (fun b hb => (HLOW.out b (.inr (.inr hb))).1)⟩)
          have HRO := Lib.hid (show R.ops = S.ops from H3o.out.sim.ops.symm)
          have HNA := Lib.hid (show ∀ b, In3 g m k b ∨ In3 g2 m2 k2 b ∨ In3 gr mr kr b → ¬ b = ab from fun b hb e => by have := (HLOW.out b hb).2; omega)
          have HS7 := Lib.hid (show Has Wo.drew ab 30 cs from HHo.out)
          have HT7 := Lib.hid (H3o.out.kept ((Below.refl _ Wo).drew))
          have HB7 := Lib.hid HBo.out.drew
          have hs7 : Wo.drew.heap.size = Wo.heap.size := rfl
          clear cw hcs
          go_wp2_with fail
          refine wp_region_held_drew (S := fun W => Has W ab 30 cs) (by kernel_rfl) HS7.out ?_
          intro _
          refine wpAnyH_take (i := 0) (v := .pointer (some ⟨g, 0, none⟩)) rfl (by kernel_rfl) (by kernel_rfl) (by kernel_rfl) (fun _ _ _ h => h) (Or.inl ⟨by rfl, (fun W _ => by go_simp)⟩) HS7.out ?_
          simp only [List.getElem_toArray, List.getElem_cons_succ, List.getElem_cons_zero, Act.put, List.setIfInBounds_toArray, List.set_cons_zero, List.set_cons_succ]
          refine wpAnyH_take (i := 1) (v := .pointer (some ⟨ab, 1, none⟩)) rfl (by kernel_rfl) (by kernel_rfl) (by kernel_rfl) (fun _ _ _ h => h) (Or.inl ⟨by rfl, (fun W _ => by go_simp)⟩) HS7.out ?_
          simp only [List.getElem_toArray, List.getElem_cons_succ, List.getElem_cons_zero, Act.put, List.setIfInBounds_toArray, List.set_cons_zero, List.set_cons_succ]
          refine wpAnyH_take (i := 2) (v := .int .i64 at') rfl (by kernel_rfl) (by kernel_rfl) (by kernel_rfl) (fun _ _ _ h => h) (Or.inl ⟨by rfl, (fun W hW => by have q9 := (HC5.out W hW).2.1; go_simp)⟩) HS7.out ?_
          simp only [List.getElem_toArray, List.getElem_cons_succ, List.getElem_cons_zero, Act.put, List.setIfInBounds_toArray, List.set_cons_zero, List.set_cons_succ]
          refine wpAnyH_take (i := 3) (v := .pointer (some ⟨ab, 3, none⟩)) rfl (by kernel_rfl) (by kernel_rfl) (by kernel_rfl) (fun _ _ _ h => h) (Or.inl ⟨by rfl, (fun W _ => by go_simp)⟩) HS7.out ?_
          simp only [List.getElem_toArray, List.getElem_cons_succ, List.getElem_cons_zero, Act.put, List.setIfInBounds_toArray, List.set_cons_zero, List.set_cons_succ]
          refine wpAnyH_take (i := 4) (v := .slice BA BL BC) rfl (by kernel_rfl) (by kernel_rfl) (by kernel_rfl) (fun _ _ _ h => h) (Or.inl ⟨by rfl, (fun W hW => by have q9 := (HC5.out W hW).2.2.2.1; go_simp)⟩) HS7.out ?_
          simp only [List.getElem_toArray, List.getElem_cons_succ, List.getElem_cons_zero, Act.put, List.setIfInBounds_toArray, List.set_cons_zero, List.set_cons_succ]
          refine wpAnyH_take (i := 8) (v := .pointer (some ⟨gr, 0, none⟩)) rfl (by kernel_rfl) (by kernel_rfl) (by kernel_rfl) (fun _ _ _ h => h) (Or.inl ⟨by rfl, (fun W _ => by go_simp)⟩) HS7.out ?_
          simp only [List.getElem_toArray, List.getElem_cons_succ, List.getElem_cons_zero, Act.put, List.setIfInBounds_toArray, List.set_cons_zero, List.set_cons_succ]
          refine wpAnyH_take (i := 9) (v := .pointer (some ⟨ab, 1, none⟩)) rfl (by kernel_rfl) (by kernel_rfl) (by kernel_rfl) (fun _ _ _ h => h) (Or.inl ⟨by rfl, (fun W _ => by go_simp)⟩) HS7.out ?_
          simp only [List.getElem_toArray, List.getElem_cons_succ, List.getElem_cons_zero, Act.put, List.setIfInBounds_toArray, List.set_cons_zero, List.set_cons_succ]
          refine wpAnyH_take (i := 10) (v := .int .i64 at') rfl (by kernel_rfl) (by kernel_rfl) (by kernel_rfl) (fun _ _ _ h => h) (Or.inl ⟨by rfl, (fun W hW => by have q9 := (HC5.out W hW).2.1; go_simp)⟩) HS7.out ?_
          simp only [List.getElem_toArray, List.getElem_cons_succ, List.getElem_cons_zero, Act.put, List.setIfInBounds_toArray, List.set_cons_zero, List.set_cons_succ]
          refine wpAnyH_take (i := 11) (v := .pointer (some ⟨ab, 3, none⟩)) rfl (by kernel_rfl) (by kernel_rfl) (by kernel_rfl) (fun _ _ _ h => h) (Or.inl ⟨by rfl, (fun W _ => by go_simp)⟩) HS7.out ?_
          simp only [List.getElem_toArray, List.getElem_cons_succ, List.getElem_cons_zero, Act.put, List.setIfInBounds_toArray, List.set_cons_zero, List.set_cons_succ]
          refine wpAnyH_take (i := 12) (v := .slice BA BL BC) rfl (by kernel_rfl) (by kernel_rfl) (by kernel_rfl) (fun _ _ _ h => h) (Or.inl ⟨by rfl, (fun W hW => by have q9 := (HC5.out W hW).2.2.2.1; go_simp)⟩) HS7.out ?_
          simp only [List.getElem_toArray, List.getElem_cons_succ, List.getElem_cons_zero, Act.put, List.setIfInBounds_toArray, List.set_cons_zero, List.set_cons_succ]
          obtain ⟨v9, w9, hrun9, own9, g9⟩ := runs_app Wo.drew Wo.drew.heap.size 28 (.slice none 0 0) 0 [] (own_nil _ _) BA BL BC bs (row_below HB7.out HA.out.rb) (row_none HA.out.rb) (by omega) (Nat.le_refl _)
          rw [Nat.zero_add, List.nil_append] at own9
          have c9 := below_own (Below.refl _ Wo.drew) (own_nil Wo.drew Wo.drew.heap.size) g9 (Nat.le_refl _) (Nat.le_refl _)
          obtain ⟨A9, e9, rfl, he9, hq9, hA9⟩ := own9.form
          have HS9 := Lib.hid (HS7.out.kept c9)
          have HT9 := Lib.hid (HT7.out.kept c9)
          have HB9 := Lib.hid (HB7.out.trans (c9.mono HB7.out.size))
          have hT9 : T ≤ w9.heap.size := by have := c9.size; omega
          have HQ9 := Lib.hid hq9
          have HAW9 := Lib.hid (show Away g m k A9 from fun x hx e => by have := (hA9 x hx).1; have := (HLOW.out _ (.inl e)).2; omega)
          refine wpAnyH_ready (rs := [5]) (by kernel_rfl) (by simp) ?_
          refine AllReadyH.cons rfl (fun K hK => ?_) AllReadyH.nil
          refine step_run (by rfl) (.const (.slice none 0 0)) (.tmp 68) rfl 28 rfl (.slice none 0 0) (.slice BA BL BC) (.slice A9 BL e9) rfl rfl hrun9 ?_
          refine hK.out _ _ HS9.out (fun _ => ?_)
          clear hK K hrun9 own9 g9 c9 hq9 hA9
          simp only [List.getElem_toArray, List.getElem_cons_succ, List.getElem_cons_zero, Act.put, List.setIfInBounds_toArray, List.set_cons_zero, List.set_cons_succ]
          refine wpAnyH_ready (rs := [6]) (by kernel_rfl) (by simp) ?_
          refine AllReadyH.cons rfl (fun K hK => ?_) AllReadyH.nil
          go_simp
          refine (program_any at' A9 BL e9 bs w9 HA.out.i1 HT9.out.f HQ9.out HAW9.out (by omega)).mono ?_
          rintro e w10 ⟨rfl, f10, o10⟩
          have HS10 := Lib.hid (HS9.out.only o10 (fun x => HNA.out _ (.inl x) rfl))
          have HB10 := Lib.hid (HB9.out.trans (o10.to_below HB9.out.size fun b hb => (HLOW.out b (.inl hb)).1))
          have H310 := Lib.hid (HT9.out.of_f HAP.out ⟨f10, o10⟩)
          have hT10 : T ≤ w10.heap.size := Nat.le_trans hT9 o10.size
          clear f10 o10
          refine hK.out _ _ HS10.out (fun _ => ?_)
          clear hK K
          refine wpAnyH_ready (rs := [7]) (by kernel_rfl) (by simp) ?_
          refine AllReadyH.cons rfl (fun K hK => ?_) AllReadyH.nil
          go_simp
          refine (num_any _ _).mono ?_
          rintro e w11 ⟨rfl, rfl⟩
          refine hK.out _ _ HS10.out (fun _ => ?_)
          clear hK K
          have HSIM := Lib.hid (prog_sim HT9.out.sim at' bs)
          refine wpAnyH_ready (rs := [13]) (by kernel_rfl) (by simp) ?_
          refine AllReadyH.cons rfl (fun K hK => ?_) AllReadyH.nil
          go_simp
          refine (rprogram_any at' BA BL BC bs w10 HA.out.i1 H310.out.2.2 (row_below HB10.out HA.out.rb) (by omega) HIN.out.1 (by rw [HRO.out]; omega)).mono ?_
          rintro e w12 ⟨rfl, f12, o12⟩
          have HS12 := Lib.hid (HS10.out.only o12 (fun x => HNA.out _ (.inr (.inr x)) rfl))
          have HB12 := Lib.hid (HB10.out.trans (o12.to_below HB10.out.size fun b hb => (HLOW.out b (.inr (.inr hb))).1))
          have H312 := Lib.hid (show Three w12 T g m k g2 m2 k2 gr mr kr d (prog S at' bs).2 O' (prog R at' bs).2 from ⟨fl_apart H310.out.1 HAP.out ⟨f12, o12⟩, fo_apart H310.out.2.1 HAP.out ⟨f12, o12⟩, f12, HSIM.out.2, few_prog HT9.out.fs _ _, HT9.out.fo, few_prog HT9.out.fr _ _⟩)
          have hT12 : T ≤ w12.heap.size := Nat.le_trans hT10 o12.size
          clear f12 o12
          rw [← HSIM.out.1]
          refine hK.out _ _ HS12.out (fun _ => ?_)
          clear hK K
          refine wpAnyH_take (i := 14) (v := .bool false) rfl (by kernel_rfl) (by kernel_rfl) (by kernel_rfl) (fun _ _ _ h => h) (Or.inl ⟨by rfl, (fun W _ => by go_simp)⟩) HS12.out ?_
          simp only [List.getElem_toArray, List.getElem_cons_succ, List.getElem_cons_zero, Act.put, List.setIfInBounds_toArray, List.set_cons_zero, List.set_cons_succ]
          refine wpAnyH_done (by kernel_rfl) ?_ _
          have hpo := prog_ops S at' bs
          go_wp2_with fail
          go_meet
          case rel => exact ⟨rfl, _, _, _, H312.out, by omega, by omega, HS12.out, HB12.out, hT12⟩
        have w0b : (way == 0) = false := by simpa using w0
        by_cases w1 : way = 1
        · subst w1
          have HC5 := Lib.hid (show ∀ W, Has W ab 30 cs → W.cell? ⟨ab, 0, none⟩ = some (.int .i64 1) ∧ W.cell? ⟨ab, 1, none⟩ = some (.int .i64 at') ∧ W.cell? ⟨ab, 2, none⟩ = some (.int .i64 q) ∧ W.cell? ⟨ab, 3, none⟩ = some (.slice BA BL BC) ∧ W.cell? ⟨ab, 4, none⟩ = some (.slice MA ML MC) from fun W hW => by rw [← hcs] at hW; exact act_cells hW)
          have HIN := Lib.hid (show Clear gr mr kr BA BL ∧ Clear gr mr kr MA ML from ⟨clear_in HA.out.rb (fun b hb => (HLOW.out b (.inr (.inr hb))).1), clear_in HA.out.rm (fun b hb => (HLOW.out b (.inr (.inr hb))).1)⟩)
          have HRO := Lib.hid (show R.ops = S.ops from H3o.out.sim.ops.symm)
          have HNA := Lib.hid (show ∀ b, In3 g m k b ∨ In3 g2 m2 k2 b ∨ In3 gr mr kr b → ¬ b = ab from fun b hb e => by have := (HLOW.out b hb).2; omega)
          have HS7 := Lib.hid (show Has Wo.drew ab 30 cs from HHo.out)
          have HT7 := Lib.hid (H3o.out.kept ((Below.refl _ Wo).drew))
          have HB7 := Lib.hid HBo.out.drew
          have hs7 : Wo.drew.heap.size = Wo.heap.size := rfl
          clear cw hcs
          go_wp2_with fail
          refine wp_region_held_drew (S := fun W => Has W ab 30 cs) (by kernel_rfl) HS7.out ?_
          intro _
          refine wpAnyH_take (i := 0) (v := .pointer (some ⟨g, 0, none⟩)) rfl (by kernel_rfl) (by kernel_rfl) (by kernel_rfl) (fun _ _ _ h => h) (Or.inl ⟨by rfl, (fun W _ => by go_simp)⟩) HS7.out ?_
          simp only [List.getElem_toArray, List.getElem_cons_succ, List.getElem_cons_zero, Act.put, List.setIfInBounds_toArray, List.set_cons_zero, List.set_cons_succ]
          refine wpAnyH_take (i := 1) (v := .pointer (some ⟨ab, 2, none⟩)) rfl (by kernel_rfl) (by kernel_rfl) (by kernel_rfl) (fun _ _ _ h => h) (Or.inl ⟨by rfl, (fun W _ => by go_simp)⟩) HS7.out ?_
          simp only [List.getElem_toArray, List.getElem_cons_succ, List.getElem_cons_zero, Act.put, List.setIfInBounds_toArray, List.set_cons_zero, List.set_cons_succ]
          refine wpAnyH_take (i := 2) (v := .int .i64 q) rfl (by kernel_rfl) (by kernel_rfl) (by kernel_rfl) (fun _ _ _ h => h) (Or.inl ⟨by rfl, (fun W hW => by have q9 := (HC5.out W hW).2.2.1; go_simp)⟩) HS7.out ?_
          simp only [List.getElem_toArray, List.getElem_cons_succ, List.getElem_cons_zero, Act.put, List.setIfInBounds_toArray, List.set_cons_zero, List.set_cons_succ]
          refine wpAnyH_take (i := 5) (v := .pointer (some ⟨gr, 0, none⟩)) rfl (by kernel_rfl) (by kernel_rfl) (by kernel_rfl) (fun _ _ _ h => h) (Or.inl ⟨by rfl, (fun W _ => by go_simp)⟩) HS7.out ?_
          simp only [List.getElem_toArray, List.getElem_cons_succ, List.getElem_cons_zero, Act.put, List.setIfInBounds_toArray, List.set_cons_zero, List.set_cons_succ]
          refine wpAnyH_take (i := 6) (v := .pointer (some ⟨ab, 2, none⟩)) rfl (by kernel_rfl) (by kernel_rfl) (by kernel_rfl) (fun _ _ _ h => h) (Or.inl ⟨by rfl, (fun W _ => by go_simp)⟩) HS7.out ?_
          simp only [List.getElem_toArray, List.getElem_cons_succ, List.getElem_cons_zero, Act.put, List.setIfInBounds_toArray, List.set_cons_zero, List.set_cons_succ]
          refine wpAnyH_take (i := 7) (v := .int .i64 q) rfl (by kernel_rfl) (by kernel_rfl) (by kernel_rfl) (fun _ _ _ h => h) (Or.inl ⟨by rfl, (fun W hW => by have q9 := (HC5.out W hW).2.2.1; go_simp)⟩) HS7.out ?_
          simp only [List.getElem_toArray, List.getElem_cons_succ, List.getElem_cons_zero, Act.put, List.setIfInBounds_toArray, List.set_cons_zero, List.set_cons_succ]
          refine wpAnyH_ready (rs := [3]) (by kernel_rfl) (by simp) ?_
          refine AllReadyH.cons rfl (fun K hK => ?_) AllReadyH.nil
          go_simp
          refine (erase_any q Wo.drew HT7.out.f (by omega) HT7.out.fs).mono ?_
          rintro e w10 ⟨rfl, f10, o10⟩
          have HS10 := Lib.hid (HS7.out.only o10 (fun x => HNA.out _ (.inl x) rfl))
          have HB10 := Lib.hid (HB7.out.trans (o10.to_below HB7.out.size fun b hb => (HLOW.out b (.inl hb)).1))
          have H310 := Lib.hid (HT7.out.of_f HAP.out ⟨f10, o10⟩)
          have hT10 : T ≤ w10.heap.size := Nat.le_trans hTo o10.size
          clear f10 o10
          refine hK.out _ _ HS10.out (fun _ => ?_)
          clear hK K
          refine wpAnyH_ready (rs := [4]) (by kernel_rfl) (by simp) ?_
          refine AllReadyH.cons rfl (fun K hK => ?_) AllReadyH.nil
          go_simp
          refine (num_any _ _).mono ?_
          rintro e w11 ⟨rfl, rfl⟩
          refine hK.out _ _ HS10.out (fun _ => ?_)
          clear hK K
          have HSIM := Lib.hid (erase_sim HT7.out.sim q)
          refine wpAnyH_ready (rs := [8]) (by kernel_rfl) (by simp) ?_
          refine AllReadyH.cons rfl (fun K hK => ?_) AllReadyH.nil
          go_simp
          refine (rerase_any q w10 H310.out.2.2 (by rw [HRO.out]; omega) HT7.out.fr).mono ?_
          rintro e w12 ⟨rfl, f12, o12⟩
          have HS12 := Lib.hid (HS10.out.only o12 (fun x => HNA.out _ (.inr (.inr x)) rfl))
          have HB12 := Lib.hid (HB10.out.trans (o12.to_below HB10.out.size fun b hb => (HLOW.out b (.inr (.inr hb))).1))
          have H312 := Lib.hid (show Three w12 T g m k g2 m2 k2 gr mr kr d (erase S q).2 O' (erase R q).2 from ⟨fl_apart H310.out.1 HAP.out ⟨f12, o12⟩, fo_apart H310.out.2.1 HAP.out ⟨f12, o12⟩, f12, HSIM.out.2, few_erase HT7.out.fs _, HT7.out.fo, few_erase HT7.out.fr _⟩)
          have hT12 : T ≤ w12.heap.size := Nat.le_trans hT10 o12.size
          clear f12 o12
          rw [← HSIM.out.1]
          refine hK.out _ _ HS12.out (fun _ => ?_)
          clear hK K
          refine wpAnyH_take (i := 9) (v := .bool false) rfl (by kernel_rfl) (by kernel_rfl) (by kernel_rfl) (fun _ _ _ h => h) (Or.inl ⟨by rfl, (fun W _ => by go_simp)⟩) HS12.out ?_
          simp only [List.getElem_toArray, List.getElem_cons_succ, List.getElem_cons_zero, Act.put, List.setIfInBounds_toArray, List.set_cons_zero, List.set_cons_succ]
          refine wpAnyH_done (by kernel_rfl) ?_ _
          have hpo := erase_ops S q
          go_wp2_with fail
          go_meet
          case rel => exact ⟨rfl, _, _, _, H312.out, by omega, by omega, HS12.out, HB12.out, hT12⟩
        have w1b : (way == 1) = false := by simpa using w1
        by_cases w2 : way = 2
        · subst w2
          have HC5 := Lib.hid (show ∀ W, Has W ab 30 cs → W.cell? ⟨ab, 0, none⟩ = some (.int .i64 2) ∧ W.cell? ⟨ab, 1, none⟩ = some (.int .i64 at') ∧ W.cell? ⟨ab, 2, none⟩ = some (.int .i64 q) ∧ W.cell? ⟨ab, 3, none⟩ = some (.slice BA BL BC) ∧ W.cell? ⟨ab, 4, none⟩ = some (.slice MA ML MC) from fun W hW => by rw [← hcs] at hW; exact act_cells hW)
          have HIN := Lib.hid (show Clear gr mr kr BA BL ∧ Clear gr mr kr MA ML from ⟨clear_in HA.out.rb (fun b hb => (HLOW.out b (.inr (.inr hb))).1), clear_in HA.out.rm (fun b hb => (HLOW.out b (.inr (.inr hb))).1)⟩)
          have HRO := Lib.hid (show R.ops = S.ops from H3o.out.sim.ops.symm)
          have HNA := Lib.hid (show ∀ b, In3 g m k b ∨ In3 g2 m2 k2 b ∨ In3 gr mr kr b → ¬ b = ab from fun b hb e => by have := (HLOW.out b hb).2; omega)
          have HS7 := Lib.hid (show Has Wo.drew ab 30 cs from HHo.out)
          have HT7 := Lib.hid (H3o.out.kept ((Below.refl _ Wo).drew))
          have HB7 := Lib.hid HBo.out.drew
          have hs7 : Wo.drew.heap.size = Wo.heap.size := rfl
          clear cw hcs
          go_wp2_with fail
          refine wp_region_held_drew (S := fun W => Has W ab 30 cs) (by kernel_rfl) HS7.out ?_
          intro _
          refine wpAnyH_take (i := 0) (v := .pointer (some ⟨g, 0, none⟩)) rfl (by kernel_rfl) (by kernel_rfl) (by kernel_rfl) (fun _ _ _ h => h) (Or.inl ⟨by rfl, (fun W _ => by go_simp)⟩) HS7.out ?_
          simp only [List.getElem_toArray, List.getElem_cons_succ, List.getElem_cons_zero, Act.put, List.setIfInBounds_toArray, List.set_cons_zero, List.set_cons_succ]
          refine wpAnyH_take (i := 1) (v := .pointer (some ⟨ab, 2, none⟩)) rfl (by kernel_rfl) (by kernel_rfl) (by kernel_rfl) (fun _ _ _ h => h) (Or.inl ⟨by rfl, (fun W _ => by go_simp)⟩) HS7.out ?_
          simp only [List.getElem_toArray, List.getElem_cons_succ, List.getElem_cons_zero, Act.put, List.setIfInBounds_toArray, List.set_cons_zero, List.set_cons_succ]
          refine wpAnyH_take (i := 2) (v := .int .i64 q) rfl (by kernel_rfl) (by kernel_rfl) (by kernel_rfl) (fun _ _ _ h => h) (Or.inl ⟨by rfl, (fun W hW => by have q9 := (HC5.out W hW).2.2.1; go_simp)⟩) HS7.out ?_
          simp only [List.getElem_toArray, List.getElem_cons_succ, List.getElem_cons_zero, Act.put, List.setIfInBounds_toArray, List.set_cons_zero, List.set_cons_succ]
          refine wpAnyH_take (i := 3) (v := .pointer (some ⟨ab, 4, none⟩)) rfl (by kernel_rfl) (by kernel_rfl) (by kernel_rfl) (fun _ _ _ h => h) (Or.inl ⟨by rfl, (fun W _ => by go_simp)⟩) HS7.out ?_
          simp only [List.getElem_toArray, List.getElem_cons_succ, List.getElem_cons_zero, Act.put, List.setIfInBounds_toArray, List.set_cons_zero, List.set_cons_succ]
          refine wpAnyH_take (i := 4) (v := .slice MA ML MC) rfl (by kernel_rfl) (by kernel_rfl) (by kernel_rfl) (fun _ _ _ h => h) (Or.inl ⟨by rfl, (fun W hW => by have q9 := (HC5.out W hW).2.2.2.2; go_simp)⟩) HS7.out ?_
          simp only [List.getElem_toArray, List.getElem_cons_succ, List.getElem_cons_zero, Act.put, List.setIfInBounds_toArray, List.set_cons_zero, List.set_cons_succ]
          obtain ⟨v9, w9, hrun9, own9, g9⟩ := runs_app Wo.drew Wo.drew.heap.size 28 (.slice none 0 0) 0 [] (own_nil _ _) MA ML MC ms (row_below HB7.out HA.out.rm) (row_none HA.out.rm) (by omega) (Nat.le_refl _)
          rw [Nat.zero_add, List.nil_append] at own9
          have c9 := below_own (Below.refl _ Wo.drew) (own_nil Wo.drew Wo.drew.heap.size) g9 (Nat.le_refl _) (Nat.le_refl _)
          obtain ⟨A9, e9, rfl, he9, hq9, hA9⟩ := own9.form
          have HS9 := Lib.hid (HS7.out.kept c9)
          have HT9 := Lib.hid (HT7.out.kept c9)
          have HB9 := Lib.hid (HB7.out.trans (c9.mono HB7.out.size))
          have hT9 : T ≤ w9.heap.size := by have := c9.size; omega
          have HQ9 := Lib.hid hq9
          have HAW9 := Lib.hid (show Away g m k A9 from fun x hx e => by have := (hA9 x hx).1; have := (HLOW.out _ (.inl e)).2; omega)
          refine wpAnyH_ready (rs := [5]) (by kernel_rfl) (by simp) ?_
          refine AllReadyH.cons rfl (fun K hK => ?_) AllReadyH.nil
          refine step_run (by rfl) (.const (.slice none 0 0)) (.tmp 97) rfl 28 rfl (.slice none 0 0) (.slice MA ML MC) (.slice A9 ML e9) rfl rfl hrun9 ?_
          refine hK.out _ _ HS9.out (fun _ => ?_)
          clear hK K hrun9 own9 g9 c9 hq9 hA9
          simp only [List.getElem_toArray, List.getElem_cons_succ, List.getElem_cons_zero, Act.put, List.setIfInBounds_toArray, List.set_cons_zero, List.set_cons_succ]
          refine wpAnyH_ready (rs := [6]) (by kernel_rfl) (by simp) ?_
          refine AllReadyH.cons rfl (fun K hK => ?_) AllReadyH.nil
          go_simp
          refine (cut_any q A9 ML e9 ms w9 HA.out.i2 HT9.out.f HQ9.out he9 (by omega) hT9).mono ?_
          rintro e w10 ⟨rfl, f10, o10⟩
          have HS10 := Lib.hid (HS9.out.only o10 (fun x => HNA.out _ (.inl x) rfl))
          have HB10 := Lib.hid (HB9.out.trans (o10.to_below HB9.out.size fun b hb => (HLOW.out b (.inl hb)).1))
          have H310 := Lib.hid (HT9.out.of_f HAP.out ⟨f10, o10⟩)
          have hT10 : T ≤ w10.heap.size := Nat.le_trans hT9 o10.size
          clear f10 o10
          refine hK.out _ _ HS10.out (fun _ => ?_)
          clear hK K
          refine wpAnyH_done (by kernel_rfl) ?_ _
          obtain ⟨_, _, x2, _, x4⟩ := HC5.out w10 HS10.out
          have HSIM := Lib.hid (cutAt_sim (k := (max q 0).toNat) (k' := (min (max q 0) 1073741824).toNat) (HT9.out.sim.less (Nat.le_succ d)) (by omega) ms)
          go_wp2_with (go_at_call 17; refine (rcutAt_any q MA ML MC ms w10 H310.out.2.2 (row_below HB10.out HA.out.rm) HIN.out.2 (by omega) hT10).mono ?_; rintro e w12 ⟨rfl, f12, o12⟩)
          have HS12 := Lib.hid (HS10.out.only o12 (fun x => HNA.out _ (.inr (.inr x)) rfl))
          have HB12 := Lib.hid (HB10.out.trans (o12.to_below HB10.out.size fun b hb => (HLOW.out b (.inr (.inr hb))).1))
          have H312 := Lib.hid (show Three w12 T g m k g2 m2 k2 gr mr kr d (cutAt S (max q 0).toNat (ms.take S.mem.length)) O' (cutAt R (min (max q 0) 1073741824).toNat ms) from ⟨fl_apart H310.out.1 HAP.out ⟨f12, o12⟩, fo_apart H310.out.2.1 HAP.out ⟨f12, o12⟩, f12, HSIM.out, few_cut HT9.out.fs _ _, HT9.out.fo, few_cut HT9.out.fr _ _⟩)
          have hT12 : T ≤ w12.heap.size := Nat.le_trans hT10 o12.size
          go_meet
          case rel => exact ⟨rfl, _, _, _, H312.out, by show S.ops ≤ j + 1; omega, by omega, HS12.out, HB12.out, hT12⟩
        have w2b : (way == 2) = false := by simpa using w2
        by_cases w3 : way = 3
        · subst w3
          have HC5 := Lib.hid (show ∀ W, Has W ab 30 cs → W.cell? ⟨ab, 0, none⟩ = some (.int .i64 3) ∧ W.cell? ⟨ab, 1, none⟩ = some (.int .i64 at') ∧ W.cell? ⟨ab, 2, none⟩ = some (.int .i64 q) ∧ W.cell? ⟨ab, 3, none⟩ = some (.slice BA BL BC) ∧ W.cell? ⟨ab, 4, none⟩ = some (.slice MA ML MC) from fun W hW => by rw [← hcs] at hW; exact act_cells hW)
          have HIN := Lib.hid (show Clear gr mr kr BA BL ∧ Clear gr mr kr MA ML from ⟨clear_in HA.out.rb (fun b hb => (HLOW.out b (.inr (.inr hb))).1), clear_in HA.out.rm (fun b hb => (HLOW.out b (.inr (.inr hb))).1)⟩)
          have HRO := Lib.hid (show R.ops = S.ops from H3o.out.sim.ops.symm)
          have HNA := Lib.hid (show ∀ b, In3 g m k b ∨ In3 g2 m2 k2 b ∨ In3 gr mr kr b → ¬ b = ab from fun b hb e => by have := (HLOW.out b hb).2; omega)
          have HS7 := Lib.hid (show Has Wo.drew ab 30 cs from HHo.out)
          have HT7 := Lib.hid (H3o.out.kept ((Below.refl _ Wo).drew))
          have HB7 := Lib.hid HBo.out.drew
          have hs7 : Wo.drew.heap.size = Wo.heap.size := rfl
          clear cw hcs
          have HC := Lib.hid (power_any Wo H3o.out.f)
          go_wp2_with (go_at_call 18; (with_reducible refine HC.out.mono ?_); rintro e w10 ⟨rfl, f10, o10⟩)
          have HS10 := Lib.hid (HHo.out.only o10 (fun x => HNA.out _ (.inl x) rfl))
          have HB10 := Lib.hid (HBo.out.trans (o10.to_below HBo.out.size fun b hb => (HLOW.out b (.inl hb)).1))
          have H310 := Lib.hid (H3o.out.of_f HAP.out ⟨f10, o10⟩)
          have hT10 : T ≤ w10.heap.size := Nat.le_trans hTo o10.size
          clear f10 o10 HC
          have HC := Lib.hid (rpower_any w10 H310.out.2.2)
          go_wp2_with (go_at_call 19; (with_reducible refine HC.out.mono ?_); rintro e w12 ⟨rfl, f12, o12⟩)
          have HS12 := Lib.hid (HS10.out.only o12 (fun x => HNA.out _ (.inr (.inr x)) rfl))
          have HB12 := Lib.hid (HB10.out.trans (o12.to_below HB10.out.size fun b hb => (HLOW.out b (.inr (.inr hb))).1))
          have H312 := Lib.hid (show Three w12 T g m k g2 m2 k2 gr mr kr d (power S) O' (power R) from ⟨fl_apart H310.out.1 HAP.out ⟨f12, o12⟩, fo_apart H310.out.2.1 HAP.out ⟨f12, o12⟩, f12, power_sim (H3o.out.sim.less (Nat.le_succ d)), few_power H3o.out.fs, H3o.out.fo, few_power H3o.out.fr⟩)
          have hT12 : T ≤ w12.heap.size := Nat.le_trans hT10 o12.size
          go_meet
          case rel => exact ⟨rfl, _, _, _, H312.out, by show S.ops ≤ j + 1; omega, by omega, HS12.out, HB12.out, hT12⟩
        have w3b : (way == 3) = false := by simpa using w3
        go_wp2_with fail
        go_meet
        case rel => exact ⟨rfl, S, O', R, ⟨H3o.out.f, H3o.out.o, H3o.out.r, H3o.out.sim.less (Nat.le_succ d), H3o.out.fs, H3o.out.fo, H3o.out.fr⟩, by omega, by omega, HHo.out, HBo.out, hTo⟩
      case rest =>
        obtain ⟨rfl, S1, O1, R1, h3c, hSc, hOc, hHc, hBc, hTc⟩ := hcut
        have bd : Below wc.heap.size wc wc.drew := (Below.refl _ wc).drew
        have HKF := Lib.hid (show ∀ W, Below wc.heap.size wc.drew W → Fl W T g m k S1 ∧ Rl W T gr mr kr R1 from fun W hW => ⟨h3c.f.kept (bd.trans hW), h3c.r.kept (bd.trans hW)⟩)
        have HC5 := Lib.hid (show ∀ W, Below wc.heap.size wc.drew W → W.cell? ⟨ab, 0, none⟩ = some (.int .i64 way) ∧ W.cell? ⟨ab, 1, none⟩ = some (.int .i64 at') ∧ W.cell? ⟨ab, 2, none⟩ = some (.int .i64 q) ∧ W.cell? ⟨ab, 3, none⟩ = some (.slice BA BL BC) ∧ W.cell? ⟨ab, 4, none⟩ = some (.slice MA ML MC) from fun W hW => by rw [← hcs] at hHc; exact act_cells (hHc.kept (bd.trans hW)))
        have HC6 := Lib.hid (show ∀ W, Below wc.heap.size wc.drew W → W.cell? ⟨gr, 6, none⟩ = some (.int .i64 (S1.ops : Int)) from fun W hW => by rw [h3c.sim.ops]; exact (HKF.out W hW).2.cells.2.2.1)
        have HSIM := Lib.hid h3c.sim
        have H3c := Lib.hid h3c
        have HBc := Lib.hid hBc
        have HS7 := Lib.hid (Below.refl wc.heap.size wc.drew)
        have hiB : I64 (BL : Int) := ⟨by omega, by omega⟩
        clear cw hcs h3c hHc hBc bd H3o HHo HBo hoo HFO
        go_wp2_with fail
        refine wp_region_held_drew (S := fun W => Below wc.heap.size wc.drew W) (by kernel_rfl) HS7.out ?_
        intro _
        refine wpAnyH_take (i := 0) (v := .pointer (some ⟨g, 0, none⟩)) rfl (by kernel_rfl) (by kernel_rfl) (by kernel_rfl) (fun _ _ _ h => h) (Or.inl ⟨by rfl, (fun W _ => by go_simp)⟩) HS7.out ?_
        simp only [List.getElem_toArray, List.getElem_cons_succ, List.getElem_cons_zero, Act.put, List.setIfInBounds_toArray, List.set_cons_zero, List.set_cons_succ]
        refine wpAnyH_take (i := 2) (v := .pointer (some ⟨gr, 0, none⟩)) rfl (by kernel_rfl) (by kernel_rfl) (by kernel_rfl) (fun _ _ _ h => h) (Or.inl ⟨by rfl, (fun W _ => by go_simp)⟩) HS7.out ?_
        simp only [List.getElem_toArray, List.getElem_cons_succ, List.getElem_cons_zero, Act.put, List.setIfInBounds_toArray, List.set_cons_zero, List.set_cons_succ]
        refine wpAnyH_ready (rs := [1]) (by kernel_rfl) (by simp) ?_
        refine AllReadyH.cons rfl (fun K hK => ?_) AllReadyH.nil
        go_simp
        refine (off_any _ (HKF.out _ HS7.out).1).mono ?_
        rintro e w8 ⟨rfl, rfl⟩
        refine hK.out _ _ HS7.out (fun _ => ?_)
        clear hK K
        refine wpAnyH_ready (rs := [3]) (by kernel_rfl) (by simp) ?_
        refine AllReadyH.cons rfl (fun K hK => ?_) AllReadyH.nil
        go_simp
        refine (roff_any _ (HKF.out _ HS7.out).2).mono ?_
        rintro e w8 ⟨rfl, rfl⟩
        rw [← HSIM.out.off]
        refine hK.out _ _ HS7.out (fun _ => ?_)
        clear hK K
        refine wpAnyH_take (i := 4) (v := .bool false) rfl (by kernel_rfl) (by kernel_rfl) (by kernel_rfl) (fun _ _ _ h => h) (Or.inl ⟨by rfl, (fun W _ => by go_simp)⟩) HS7.out ?_
        simp only [List.getElem_toArray, List.getElem_cons_succ, List.getElem_cons_zero, Act.put, List.setIfInBounds_toArray, List.set_cons_zero, List.set_cons_succ]
        refine wpAnyH_take (i := 5) (v := .bool false) rfl (by kernel_rfl) (by kernel_rfl) (by kernel_rfl) (fun _ _ _ h => h) (Or.inl ⟨by rfl, (fun W _ => by go_simp)⟩) HS7.out ?_
        simp only [List.getElem_toArray, List.getElem_cons_succ, List.getElem_cons_zero, Act.put, List.setIfInBounds_toArray, List.set_cons_zero, List.set_cons_succ]
        refine wpAnyH_take (i := 6) (v := .pointer (some ⟨g, 0, none⟩)) rfl (by kernel_rfl) (by kernel_rfl) (by kernel_rfl) (fun _ _ _ h => h) (Or.inl ⟨by rfl, (fun W _ => by go_simp)⟩) HS7.out ?_
        simp only [List.getElem_toArray, List.getElem_cons_succ, List.getElem_cons_zero, Act.put, List.setIfInBounds_toArray, List.set_cons_zero, List.set_cons_succ]
        refine wpAnyH_take (i := 8) (v := .pointer (some ⟨gr, 0, none⟩)) rfl (by kernel_rfl) (by kernel_rfl) (by kernel_rfl) (fun _ _ _ h => h) (Or.inl ⟨by rfl, (fun W _ => by go_simp)⟩) HS7.out ?_
        simp only [List.getElem_toArray, List.getElem_cons_succ, List.getElem_cons_zero, Act.put, List.setIfInBounds_toArray, List.set_cons_zero, List.set_cons_succ]
        refine wpAnyH_take (i := 9) (v := .pointer (some ⟨gr, 0, none⟩)) rfl (by kernel_rfl) (by kernel_rfl) (by kernel_rfl) (fun _ _ _ h => h) (Or.inl ⟨by rfl, (fun W _ => by go_simp)⟩) HS7.out ?_
        simp only [List.getElem_toArray, List.getElem_cons_succ, List.getElem_cons_zero, Act.put, List.setIfInBounds_toArray, List.set_cons_zero, List.set_cons_succ]
        refine wpAnyH_take (i := 10) (v := .pointer (some ⟨gr, 6, none⟩)) rfl (by kernel_rfl) (by kernel_rfl) (by kernel_rfl) (fun _ _ _ h => h) (Or.inl ⟨by rfl, (fun W _ => by go_simp)⟩) HS7.out ?_
        simp only [List.getElem_toArray, List.getElem_cons_succ, List.getElem_cons_zero, Act.put, List.setIfInBounds_toArray, List.set_cons_zero, List.set_cons_succ]
        refine wpAnyH_take (i := 11) (v := .int .i64 (S1.ops : Int)) rfl (by kernel_rfl) (by kernel_rfl) (by kernel_rfl) (fun _ _ _ h => h) (Or.inl ⟨by rfl, (fun W hW => by have q9 := HC6.out W hW; go_simp)⟩) HS7.out ?_
        simp only [List.getElem_toArray, List.getElem_cons_succ, List.getElem_cons_zero, Act.put, List.setIfInBounds_toArray, List.set_cons_zero, List.set_cons_succ]
        refine wpAnyH_ready (rs := [7]) (by kernel_rfl) (by simp) ?_
        refine AllReadyH.cons rfl (fun K hK => ?_) AllReadyH.nil
        go_simp
        refine (ops_any _ (HKF.out _ HS7.out).1).mono ?_
        rintro e w8 ⟨rfl, rfl⟩
        refine hK.out _ _ HS7.out (fun _ => ?_)
        clear hK K
        refine wpAnyH_take (i := 12) (v := .bool false) rfl (by kernel_rfl) (by kernel_rfl) (by kernel_rfl) (fun _ _ _ h => h) (Or.inl ⟨by rfl, (fun W _ => by go_simp)⟩) HS7.out ?_
        simp only [List.getElem_toArray, List.getElem_cons_succ, List.getElem_cons_zero, Act.put, List.setIfInBounds_toArray, List.set_cons_zero, List.set_cons_succ]
        refine wpAnyH_take (i := 13) (v := .bool false) rfl (by kernel_rfl) (by kernel_rfl) (by kernel_rfl) (fun _ _ _ h => h) (Or.inl ⟨by rfl, (fun W _ => by go_simp)⟩) HS7.out ?_
        simp only [List.getElem_toArray, List.getElem_cons_succ, List.getElem_cons_zero, Act.put, List.setIfInBounds_toArray, List.set_cons_zero, List.set_cons_succ]
        refine wpAnyH_take (i := 14) (v := .bool false) rfl (by kernel_rfl) (by kernel_rfl) (by kernel_rfl) (fun _ _ _ h => h) (Or.inl ⟨by rfl, (fun W _ => by go_simp)⟩) HS7.out ?_
        simp only [List.getElem_toArray, List.getElem_cons_succ, List.getElem_cons_zero, Act.put, List.setIfInBounds_toArray, List.set_cons_zero, List.set_cons_succ]
        refine wpAnyH_take (i := 15) (v := .pointer (some ⟨g, 0, none⟩)) rfl (by kernel_rfl) (by kernel_rfl) (by kernel_rfl) (fun _ _ _ h => h) (Or.inl ⟨by rfl, (fun W _ => by go_simp)⟩) HS7.out ?_
        simp only [List.getElem_toArray, List.getElem_cons_succ, List.getElem_cons_zero, Act.put, List.setIfInBounds_toArray, List.set_cons_zero, List.set_cons_succ]
        refine wpAnyH_take (i := 16) (v := .pointer (some ⟨ab, 2, none⟩)) rfl (by kernel_rfl) (by kernel_rfl) (by kernel_rfl) (fun _ _ _ h => h) (Or.inl ⟨by rfl, (fun W _ => by go_simp)⟩) HS7.out ?_
        simp only [List.getElem_toArray, List.getElem_cons_succ, List.getElem_cons_zero, Act.put, List.setIfInBounds_toArray, List.set_cons_zero, List.set_cons_succ]
        refine wpAnyH_take (i := 17) (v := .int .i64 q) rfl (by kernel_rfl) (by kernel_rfl) (by kernel_rfl) (fun _ _ _ h => h) (Or.inl ⟨by rfl, (fun W hW => by have q9 := (HC5.out W hW).2.2.1; go_simp)⟩) HS7.out ?_
        simp only [List.getElem_toArray, List.getElem_cons_succ, List.getElem_cons_zero, Act.put, List.setIfInBounds_toArray, List.set_cons_zero, List.set_cons_succ]
        refine wpAnyH_take (i := 19) (v := .pointer (some ⟨gr, 0, none⟩)) rfl (by kernel_rfl) (by kernel_rfl) (by kernel_rfl) (fun _ _ _ h => h) (Or.inl ⟨by rfl, (fun W _ => by go_simp)⟩) HS7.out ?_
        simp only [List.getElem_toArray, List.getElem_cons_succ, List.getElem_cons_zero, Act.put, List.setIfInBounds_toArray, List.set_cons_zero, List.set_cons_succ]
        refine wpAnyH_take (i := 20) (v := .pointer (some ⟨ab, 2, none⟩)) rfl (by kernel_rfl) (by kernel_rfl) (by kernel_rfl) (fun _ _ _ h => h) (Or.inl ⟨by rfl, (fun W _ => by go_simp)⟩) HS7.out ?_
        simp only [List.getElem_toArray, List.getElem_cons_succ, List.getElem_cons_zero, Act.put, List.setIfInBounds_toArray, List.set_cons_zero, List.set_cons_succ]
        refine wpAnyH_take (i := 21) (v := .int .i64 q) rfl (by kernel_rfl) (by kernel_rfl) (by kernel_rfl) (fun _ _ _ h => h) (Or.inl ⟨by rfl, (fun W hW => by have q9 := (HC5.out W hW).2.2.1; go_simp)⟩) HS7.out ?_
        simp only [List.getElem_toArray, List.getElem_cons_succ, List.getElem_cons_zero, Act.put, List.setIfInBounds_toArray, List.set_cons_zero, List.set_cons_succ]
        refine wpAnyH_ready (rs := [18]) (by kernel_rfl) (by simp) ?_
        refine AllReadyH.cons rfl (fun K hK => ?_) AllReadyH.nil
        go_simp
        refine (wear_any q _ (HKF.out _ HS7.out).1).mono ?_
        rintro e w8 ⟨rfl, rfl⟩
        refine hK.out _ _ HS7.out (fun _ => ?_)
        clear hK K
        refine wpAnyH_ready (rs := [22]) (by kernel_rfl) (by simp) ?_
        refine AllReadyH.cons rfl (fun K hK => ?_) AllReadyH.nil
        go_simp
        refine (rwear_any q _ (HKF.out _ HS7.out).2).mono ?_
        rintro e w8 ⟨rfl, rfl⟩
        rw [← wearAt_sim HSIM.out q]
        refine hK.out _ _ HS7.out (fun _ => ?_)
        clear hK K
        refine wpAnyH_take (i := 23) (v := .bool false) rfl (by kernel_rfl) (by kernel_rfl) (by kernel_rfl) (fun _ _ _ h => h) (Or.inl ⟨by rfl, (fun W _ => by go_simp)⟩) HS7.out ?_
        simp only [List.getElem_toArray, List.getElem_cons_succ, List.getElem_cons_zero, Act.put, List.setIfInBounds_toArray, List.set_cons_zero, List.set_cons_succ]
        refine wpAnyH_take (i := 24) (v := .bool false) rfl (by kernel_rfl) (by kernel_rfl) (by kernel_rfl) (fun _ _ _ h => h) (Or.inl ⟨by rfl, (fun W _ => by go_simp)⟩) HS7.out ?_
        simp only [List.getElem_toArray, List.getElem_cons_succ, List.getElem_cons_zero, Act.put, List.setIfInBounds_toArray, List.set_cons_zero, List.set_cons_succ]
        refine wpAnyH_take (i := 25) (v := .bool false) rfl (by kernel_rfl) (by kernel_rfl) (by kernel_rfl) (fun _ _ _ h => h) (Or.inl ⟨by rfl, (fun W _ => by go_simp)⟩) HS7.out ?_
        simp only [List.getElem_toArray, List.getElem_cons_succ, List.getElem_cons_zero, Act.put, List.setIfInBounds_toArray, List.set_cons_zero, List.set_cons_succ]
        refine wpAnyH_take (i := 26) (v := .pointer (some ⟨g, 0, none⟩)) rfl (by kernel_rfl) (by kernel_rfl) (by kernel_rfl) (fun _ _ _ h => h) (Or.inl ⟨by rfl, (fun W _ => by go_simp)⟩) HS7.out ?_
        simp only [List.getElem_toArray, List.getElem_cons_succ, List.getElem_cons_zero, Act.put, List.setIfInBounds_toArray, List.set_cons_zero, List.set_cons_succ]
        refine wpAnyH_take (i := 27) (v := .pointer (some ⟨ab, 2, none⟩)) rfl (by kernel_rfl) (by kernel_rfl) (by kernel_rfl) (fun _ _ _ h => h) (Or.inl ⟨by rfl, (fun W _ => by go_simp)⟩) HS7.out ?_
        simp only [List.getElem_toArray, List.getElem_cons_succ, List.getElem_cons_zero, Act.put, List.setIfInBounds_toArray, List.set_cons_zero, List.set_cons_succ]
        refine wpAnyH_take (i := 28) (v := .int .i64 q) rfl (by kernel_rfl) (by kernel_rfl) (by kernel_rfl) (fun _ _ _ h => h) (Or.inl ⟨by rfl, (fun W hW => by have q9 := (HC5.out W hW).2.2.1; go_simp)⟩) HS7.out ?_
        simp only [List.getElem_toArray, List.getElem_cons_succ, List.getElem_cons_zero, Act.put, List.setIfInBounds_toArray, List.set_cons_zero, List.set_cons_succ]
        refine wpAnyH_take (i := 30) (v := .pointer (some ⟨gr, 0, none⟩)) rfl (by kernel_rfl) (by kernel_rfl) (by kernel_rfl) (fun _ _ _ h => h) (Or.inl ⟨by rfl, (fun W _ => by go_simp)⟩) HS7.out ?_
        simp only [List.getElem_toArray, List.getElem_cons_succ, List.getElem_cons_zero, Act.put, List.setIfInBounds_toArray, List.set_cons_zero, List.set_cons_succ]
        refine wpAnyH_take (i := 31) (v := .pointer (some ⟨ab, 2, none⟩)) rfl (by kernel_rfl) (by kernel_rfl) (by kernel_rfl) (fun _ _ _ h => h) (Or.inl ⟨by rfl, (fun W _ => by go_simp)⟩) HS7.out ?_
        simp only [List.getElem_toArray, List.getElem_cons_succ, List.getElem_cons_zero, Act.put, List.setIfInBounds_toArray, List.set_cons_zero, List.set_cons_succ]
        refine wpAnyH_take (i := 32) (v := .int .i64 q) rfl (by kernel_rfl) (by kernel_rfl) (by kernel_rfl) (fun _ _ _ h => h) (Or.inl ⟨by rfl, (fun W hW => by have q9 := (HC5.out W hW).2.2.1; go_simp)⟩) HS7.out ?_
        simp only [List.getElem_toArray, List.getElem_cons_succ, List.getElem_cons_zero, Act.put, List.setIfInBounds_toArray, List.set_cons_zero, List.set_cons_succ]
        refine wpAnyH_ready (rs := [29]) (by kernel_rfl) (by simp) ?_
        refine AllReadyH.cons rfl (fun K hK => ?_) AllReadyH.nil
        go_simp
        refine (blank_any q _ (HKF.out _ HS7.out).1).mono ?_
        rintro e w8 ⟨rfl, rfl⟩
        refine hK.out _ _ HS7.out (fun _ => ?_)
        clear hK K
        refine wpAnyH_ready (rs := [33]) (by kernel_rfl) (by simp) ?_
        refine AllReadyH.cons rfl (fun K hK => ?_) AllReadyH.nil
        go_simp
        refine (rblank_any q _ (HKF.out _ HS7.out).2).mono ?_
        rintro e w8 ⟨rfl, rfl⟩
        rw [← blank_sim HSIM.out q]
        refine hK.out _ _ HS7.out (fun _ => ?_)
        clear hK K
        refine wpAnyH_take (i := 34) (v := .bool false) rfl (by kernel_rfl) (by kernel_rfl) (by kernel_rfl) (fun _ _ _ h => h) (Or.inl ⟨by rfl, (fun W _ => by go_simp)⟩) HS7.out ?_
        simp only [List.getElem_toArray, List.getElem_cons_succ, List.getElem_cons_zero, Act.put, List.setIfInBounds_toArray, List.set_cons_zero, List.set_cons_succ]
        refine wpAnyH_take (i := 35) (v := .bool false) rfl (by kernel_rfl) (by kernel_rfl) (by kernel_rfl) (fun _ _ _ h => h) (Or.inl ⟨by rfl, (fun W _ => by go_simp)⟩) HS7.out ?_
        simp only [List.getElem_toArray, List.getElem_cons_succ, List.getElem_cons_zero, Act.put, List.setIfInBounds_toArray, List.set_cons_zero, List.set_cons_succ]
        refine wpAnyH_take (i := 36) (v := .bool false) rfl (by kernel_rfl) (by kernel_rfl) (by kernel_rfl) (fun _ _ _ h => h) (Or.inl ⟨by rfl, (fun W _ => by go_simp)⟩) HS7.out ?_
        simp only [List.getElem_toArray, List.getElem_cons_succ, List.getElem_cons_zero, Act.put, List.setIfInBounds_toArray, List.set_cons_zero, List.set_cons_succ]
        refine wpAnyH_take (i := 37) (v := .pointer (some ⟨g, 0, none⟩)) rfl (by kernel_rfl) (by kernel_rfl) (by kernel_rfl) (fun _ _ _ h => h) (Or.inl ⟨by rfl, (fun W _ => by go_simp)⟩) HS7.out ?_
        simp only [List.getElem_toArray, List.getElem_cons_succ, List.getElem_cons_zero, Act.put, List.setIfInBounds_toArray, List.set_cons_zero, List.set_cons_succ]
        refine wpAnyH_take (i := 38) (v := .pointer (some ⟨ab, 1, none⟩)) rfl (by kernel_rfl) (by kernel_rfl) (by kernel_rfl) (fun _ _ _ h => h) (Or.inl ⟨by rfl, (fun W _ => by go_simp)⟩) HS7.out ?_
        simp only [List.getElem_toArray, List.getElem_cons_succ, List.getElem_cons_zero, Act.put, List.setIfInBounds_toArray, List.set_cons_zero, List.set_cons_succ]
        refine wpAnyH_take (i := 39) (v := .int .i64 at') rfl (by kernel_rfl) (by kernel_rfl) (by kernel_rfl) (fun _ _ _ h => h) (Or.inl ⟨by rfl, (fun W hW => by have q9 := (HC5.out W hW).2.1; go_simp)⟩) HS7.out ?_
        simp only [List.getElem_toArray, List.getElem_cons_succ, List.getElem_cons_zero, Act.put, List.setIfInBounds_toArray, List.set_cons_zero, List.set_cons_succ]
        refine wpAnyH_take (i := 40) (v := .pointer (some ⟨ab, 3, none⟩)) rfl (by kernel_rfl) (by kernel_rfl) (by kernel_rfl) (fun _ _ _ h => h) (Or.inl ⟨by rfl, (fun W _ => by go_simp)⟩) HS7.out ?_
        simp only [List.getElem_toArray, List.getElem_cons_succ, List.getElem_cons_zero, Act.put, List.setIfInBounds_toArray, List.set_cons_zero, List.set_cons_succ]
        refine wpAnyH_take (i := 41) (v := .slice BA BL BC) rfl (by kernel_rfl) (by kernel_rfl) (by kernel_rfl) (fun _ _ _ h => h) (Or.inl ⟨by rfl, (fun W hW => by have q9 := (HC5.out W hW).2.2.2.1; go_simp)⟩) HS7.out ?_
        simp only [List.getElem_toArray, List.getElem_cons_succ, List.getElem_cons_zero, Act.put, List.setIfInBounds_toArray, List.set_cons_zero, List.set_cons_succ]
        refine wpAnyH_take (i := 42) (v := .int .i64 (BL : Int)) rfl (by kernel_rfl) (by kernel_rfl) (by kernel_rfl) (fun _ _ _ h => h) (Or.inl ⟨by rfl, (fun W _ => by go_simp)⟩) HS7.out ?_
        simp only [List.getElem_toArray, List.getElem_cons_succ, List.getElem_cons_zero, Act.put, List.setIfInBounds_toArray, List.set_cons_zero, List.set_cons_succ]
        refine wpAnyH_take (i := 45) (v := .pointer (some ⟨gr, 0, none⟩)) rfl (by kernel_rfl) (by kernel_rfl) (by kernel_rfl) (fun _ _ _ h => h) (Or.inl ⟨by rfl, (fun W _ => by go_simp)⟩) HS7.out ?_
        simp only [List.getElem_toArray, List.getElem_cons_succ, List.getElem_cons_zero, Act.put, List.setIfInBounds_toArray, List.set_cons_zero, List.set_cons_succ]
        refine wpAnyH_take (i := 46) (v := .pointer (some ⟨ab, 1, none⟩)) rfl (by kernel_rfl) (by kernel_rfl) (by kernel_rfl) (fun _ _ _ h => h) (Or.inl ⟨by rfl, (fun W _ => by go_simp)⟩) HS7.out ?_
        simp only [List.getElem_toArray, List.getElem_cons_succ, List.getElem_cons_zero, Act.put, List.setIfInBounds_toArray, List.set_cons_zero, List.set_cons_succ]
        refine wpAnyH_take (i := 47) (v := .int .i64 at') rfl (by kernel_rfl) (by kernel_rfl) (by kernel_rfl) (fun _ _ _ h => h) (Or.inl ⟨by rfl, (fun W hW => by have q9 := (HC5.out W hW).2.1; go_simp)⟩) HS7.out ?_
        simp only [List.getElem_toArray, List.getElem_cons_succ, List.getElem_cons_zero, Act.put, List.setIfInBounds_toArray, List.set_cons_zero, List.set_cons_succ]
        refine wpAnyH_take (i := 48) (v := .pointer (some ⟨ab, 3, none⟩)) rfl (by kernel_rfl) (by kernel_rfl) (by kernel_rfl) (fun _ _ _ h => h) (Or.inl ⟨by rfl, (fun W _ => by go_simp)⟩) HS7.out ?_
        simp only [List.getElem_toArray, List.getElem_cons_succ, List.getElem_cons_zero, Act.put, List.setIfInBounds_toArray, List.set_cons_zero, List.set_cons_succ]
        refine wpAnyH_take (i := 49) (v := .slice BA BL BC) rfl (by kernel_rfl) (by kernel_rfl) (by kernel_rfl) (fun _ _ _ h => h) (Or.inl ⟨by rfl, (fun W hW => by have q9 := (HC5.out W hW).2.2.2.1; go_simp)⟩) HS7.out ?_
        simp only [List.getElem_toArray, List.getElem_cons_succ, List.getElem_cons_zero, Act.put, List.setIfInBounds_toArray, List.set_cons_zero, List.set_cons_succ]
        refine wpAnyH_take (i := 50) (v := .int .i64 (BL : Int)) rfl (by kernel_rfl) (by kernel_rfl) (by kernel_rfl) (fun _ _ _ h => h) (Or.inl ⟨by rfl, (fun W _ => by go_simp)⟩) HS7.out ?_
        simp only [List.getElem_toArray, List.getElem_cons_succ, List.getElem_cons_zero, Act.put, List.setIfInBounds_toArray, List.set_cons_zero, List.set_cons_succ]
        refine wpAnyH_ready (rs := [43]) (by kernel_rfl) (by simp) ?_
        refine AllReadyH.cons rfl (fun K hK => ?_) AllReadyH.nil
        go_simp
        refine (read_any at' BL _ HA.out.i1 hiB (HKF.out _ HS7.out).1).mono ?_
        rintro e w43 ⟨A43, c43, rfl, hc43, r43, hA43, b43⟩
        have HS43 := Lib.hid (show Below wc.heap.size wc.drew w43 from b43)
        refine hK.out _ _ HS43.out (fun _ => ?_)
        clear hK K
        refine wpAnyH_strong (S' := fun W => Below w43.heap.size w43 W) (fun W h => HS43.out.trans (h.mono HS43.out.size)) _ _ _ _ ?_
        have HS8 := Lib.hid (Below.refl w43.heap.size w43)
        have HCV := Lib.hid (show ∀ W, Below w43.heap.size w43 W → _ from fun W h => conv_row (c := c43) (row_below h r43))
        have HRS := Lib.hid (read_sim HSIM.out at' BL)
        generalize hrd : read S1 at' BL = rd at *
        clear hrd r43 hA43 b43
        refine wpAnyH_take (i := 44) (v := .string (strOfNums rd)) rfl (by kernel_rfl) (by kernel_rfl) (by kernel_rfl) (fun _ _ _ h => h) (Or.inl ⟨by rfl, (fun W hW => by have q9 := HCV.out W hW; go_simp)⟩) HS8.out ?_
        simp only [List.getElem_toArray, List.getElem_cons_succ, List.getElem_cons_zero, Act.put, List.setIfInBounds_toArray, List.set_cons_zero, List.set_cons_succ]
        have HRD := rread_any at' BL w43 HA.out.i1 hiB (HKF.out _ HS43.out).2
        rw [← HRS.out] at HRD
        have HRD2 := Lib.hid HRD
        clear HRD
        refine wpAnyH_ready (rs := [51]) (by kernel_rfl) (by simp) ?_
        refine AllReadyH.cons rfl (fun K hK => ?_) AllReadyH.nil
        go_simp
        refine (HRD2.out).mono ?_
        rintro e w51 ⟨A51, c51, rfl, hc51, r51, hA51, b51⟩
        have HS51 := Lib.hid b51
        refine hK.out _ _ HS51.out (fun _ => ?_)
        clear hK K
        refine wpAnyH_strong (S' := fun W => Below w51.heap.size w51 W) (fun W h => HS51.out.trans (h.mono HS51.out.size)) _ _ _ _ ?_
        have HS9 := Lib.hid (Below.refl w51.heap.size w51)
        have HCV2 := Lib.hid (show ∀ W, Below w51.heap.size w51 W → _ from fun W h => conv_row (c := c51) (row_below h r51))
        have HSE := Lib.hid (show Below wc.heap.size wc.drew w51 from HS43.out.trans (HS51.out.mono HS43.out.size))
        clear r51 hA51 b51 HRD2 HRS
        refine wpAnyH_take (i := 52) (v := .string (strOfNums rd)) rfl (by kernel_rfl) (by kernel_rfl) (by kernel_rfl) (fun _ _ _ h => h) (Or.inl ⟨by rfl, (fun W hW => by have q9 := HCV2.out W hW; go_simp)⟩) HS9.out ?_
        simp only [List.getElem_toArray, List.getElem_cons_succ, List.getElem_cons_zero, Act.put, List.setIfInBounds_toArray, List.set_cons_zero, List.set_cons_succ]
        refine wpAnyH_take (i := 53) (v := .bool false) rfl (by kernel_rfl) (by kernel_rfl) (by kernel_rfl) (fun _ _ _ h => h) (Or.inl ⟨by rfl, (fun W _ => by go_simp)⟩) HS9.out ?_
        simp only [List.getElem_toArray, List.getElem_cons_succ, List.getElem_cons_zero, Act.put, List.setIfInBounds_toArray, List.set_cons_zero, List.set_cons_succ]
        refine wpAnyH_take (i := 54) (v := .bool false) rfl (by kernel_rfl) (by kernel_rfl) (by kernel_rfl) (fun _ _ _ h => h) (Or.inl ⟨by rfl, (fun W _ => by go_simp)⟩) HS9.out ?_
        simp only [List.getElem_toArray, List.getElem_cons_succ, List.getElem_cons_zero, Act.put, List.setIfInBounds_toArray, List.set_cons_zero, List.set_cons_succ]
        refine wpAnyH_take (i := 55) (v := .bool false) rfl (by kernel_rfl) (by kernel_rfl) (by kernel_rfl) (fun _ _ _ h => h) (Or.inl ⟨by rfl, (fun W _ => by go_simp)⟩) HS9.out ?_
        simp only [List.getElem_toArray, List.getElem_cons_succ, List.getElem_cons_zero, Act.put, List.setIfInBounds_toArray, List.set_cons_zero, List.set_cons_succ]
        refine wpAnyH_take (i := 56) (v := .pointer (some ⟨g, 0, none⟩)) rfl (by kernel_rfl) (by kernel_rfl) (by kernel_rfl) (fun _ _ _ h => h) (Or.inl ⟨by rfl, (fun W _ => by go_simp)⟩) HS9.out ?_
        simp only [List.getElem_toArray, List.getElem_cons_succ, List.getElem_cons_zero, Act.put, List.setIfInBounds_toArray, List.set_cons_zero, List.set_cons_succ]
        refine wpAnyH_take (i := 58) (v := .pointer (some ⟨gr, 0, none⟩)) rfl (by kernel_rfl) (by kernel_rfl) (by kernel_rfl) (fun _ _ _ h => h) (Or.inl ⟨by rfl, (fun W _ => by go_simp)⟩) HS9.out ?_
        simp only [List.getElem_toArray, List.getElem_cons_succ, List.getElem_cons_zero, Act.put, List.setIfInBounds_toArray, List.set_cons_zero, List.set_cons_succ]
        refine wpAnyH_ready (rs := [57]) (by kernel_rfl) (by simp) ?_
        refine AllReadyH.cons rfl (fun K hK => ?_) AllReadyH.nil
        go_simp
        refine (len_any _ (HKF.out _ HSE.out).1).mono ?_
        rintro e w8 ⟨rfl, rfl⟩
        refine hK.out _ _ HS9.out (fun _ => ?_)
        clear hK K
        refine wpAnyH_ready (rs := [59]) (by kernel_rfl) (by simp) ?_
        refine AllReadyH.cons rfl (fun K hK => ?_) AllReadyH.nil
        go_simp
        refine (rlen_any _ (HKF.out _ HSE.out).2).mono ?_
        rintro e w8 ⟨rfl, rfl⟩
        rw [← HSIM.out.wear]
        refine hK.out _ _ HS9.out (fun _ => ?_)
        clear hK K
        refine wpAnyH_take (i := 60) (v := .bool false) rfl (by kernel_rfl) (by kernel_rfl) (by kernel_rfl) (fun _ _ _ h => h) (Or.inl ⟨by rfl, (fun W _ => by go_simp)⟩) HS9.out ?_
        simp only [List.getElem_toArray, List.getElem_cons_succ, List.getElem_cons_zero, Act.put, List.setIfInBounds_toArray, List.set_cons_zero, List.set_cons_succ]
        refine wpAnyH_take (i := 61) (v := .bool false) rfl (by kernel_rfl) (by kernel_rfl) (by kernel_rfl) (fun _ _ _ h => h) (Or.inl ⟨by rfl, (fun W _ => by go_simp)⟩) HS9.out ?_
        simp only [List.getElem_toArray, List.getElem_cons_succ, List.getElem_cons_zero, Act.put, List.setIfInBounds_toArray, List.set_cons_zero, List.set_cons_succ]
        refine wpAnyH_done (by kernel_rfl) ?_ _
        have HBE := Lib.hid (show Below wc.heap.size wc w51 from ((Below.refl _ wc).drew).trans HSE.out)
        have H3e := Lib.hid (H3c.out.kept HBE.out)
        have HBE2 := Lib.hid (HBc.out.trans (HBE.out.mono HBc.out.size))
        have hTe : T ≤ w51.heap.size := Nat.le_trans hTc HBE.out.size
        have hdd : len - (j + 1) = d := by omega
        clear HC5 HC6 HKF HCV HCV2
        go_wp2_with fail
        go_roundw
        case rel => exact ⟨j + 1, S1, O1, R1, by go_num, by omega, hSc, hOc, by rw [hdd]; exact H3e.out, HBE2.out, hTe⟩
        case measure => simp [intOf]; omega
    · obtain rfl : j = len := by omega
      obtain ⟨Wl, rfl⟩ : ∃ x, x = wr := ⟨_, rfl⟩
      have HSIM := Lib.hid h3.sim
      have hok := h3.f.ok
      have hLe : S.wear.length ≤ 400 := hok.few
      have HWL := Lib.hid (show R.wear.length = S.wear.length by rw [h3.sim.wear])
      have HKF := Lib.hid (show ∀ W, Below Wl.heap.size Wl W → Fl W T g m k S ∧ Rl W T gr mr kr R from fun W hW => ⟨h3.f.kept hW, h3.r.kept hW⟩)
      have HBl := Lib.hid hb
      clear h3 hok hb
      go_wp2_with fail
      go_loopw [11] (fun v wr => Rounds Wl S.wear.length v wr) (fun v _ => S.wear.length - (intOf v).toNat)
      case atStart => exact ⟨0, rfl, Nat.zero_le _, Below.refl _ _⟩
      case round =>
        obtain ⟨s, rfl, hs, hbs⟩ := hrel
        obtain ⟨Wz, rfl⟩ : ∃ x, x = wr := ⟨_, rfl⟩
        have s0 : (0 : Int) ≤ (s : Int) := by omega
        have HRL := Lib.hid (rlen_any Wz (HKF.out Wz hbs).2)
        by_cases hlt : s < S.wear.length
        · have s1 : (s : Int) < (S.wear.length : Int) := by omega
          have hw : IntKind.i64.wrap ((s : Int) * 320) = (s : Int) * 320 := by rw [IntKind.wrap_i64]; omega
          have hi1 : I64 ((s : Int) * 320) := ⟨by omega, by omega⟩
          have hi2 : I64 (320 : Int) := ⟨by omega, by omega⟩
          have HBZ := Lib.hid hbs
          clear hbs
          go_wp2_with (go_at_call 30; (with_reducible refine HRL.out.mono ?_); rintro e w8 ⟨rfl, rfl⟩; rw [HWL.out])
          have HS7 := Lib.hid (Below.refl Wz.heap.size Wz.drew)
          have HKZ := Lib.hid (show ∀ W, Below Wz.heap.size Wz.drew W → Fl W T g m k S ∧ Rl W T gr mr kr R from fun W hW => HKF.out W (HBZ.out.trans ((((Below.refl _ Wz).drew).trans hW).mono HBZ.out.size)))
          refine wp_region_held_drew (S := fun W => Below Wz.heap.size Wz.drew W) (by kernel_rfl) HS7.out ?_
          intro _
          refine wpAnyH_take (i := 0) (v := .pointer (some ⟨g, 0, none⟩)) rfl (by kernel_rfl) (by kernel_rfl) (by kernel_rfl) (fun _ _ _ h => h) (Or.inl ⟨by rfl, (fun W _ => by go_simp)⟩) HS7.out ?_
          simp only [List.getElem_toArray, List.getElem_cons_succ, List.getElem_cons_zero, Act.put, List.setIfInBounds_toArray, List.set_cons_zero, List.set_cons_succ]
          refine wpAnyH_take (i := 1) (v := .int .i64 (s : Int)) rfl (by kernel_rfl) (by kernel_rfl) (by kernel_rfl) (fun _ _ _ h => h) (Or.inl ⟨by rfl, (fun W _ => by go_simp)⟩) HS7.out ?_
          simp only [List.getElem_toArray, List.getElem_cons_succ, List.getElem_cons_zero, Act.put, List.setIfInBounds_toArray, List.set_cons_zero, List.set_cons_succ]
          refine wpAnyH_take (i := 2) (v := .int .i64 ((s : Int) * 320)) rfl (by kernel_rfl) (by kernel_rfl) (by kernel_rfl) (fun _ _ _ h => h) (Or.inl ⟨by rfl, (fun W _ => by go_simp)⟩) HS7.out ?_
          simp only [List.getElem_toArray, List.getElem_cons_succ, List.getElem_cons_zero, Act.put, List.setIfInBounds_toArray, List.set_cons_zero, List.set_cons_succ]
          refine wpAnyH_take (i := 5) (v := .pointer (some ⟨gr, 0, none⟩)) rfl (by kernel_rfl) (by kernel_rfl) (by kernel_rfl) (fun _ _ _ h => h) (Or.inl ⟨by rfl, (fun W _ => by go_simp)⟩) HS7.out ?_
          simp only [List.getElem_toArray, List.getElem_cons_succ, List.getElem_cons_zero, Act.put, List.setIfInBounds_toArray, List.set_cons_zero, List.set_cons_succ]
          refine wpAnyH_take (i := 6) (v := .int .i64 (s : Int)) rfl (by kernel_rfl) (by kernel_rfl) (by kernel_rfl) (fun _ _ _ h => h) (Or.inl ⟨by rfl, (fun W _ => by go_simp)⟩) HS7.out ?_
          simp only [List.getElem_toArray, List.getElem_cons_succ, List.getElem_cons_zero, Act.put, List.setIfInBounds_toArray, List.set_cons_zero, List.set_cons_succ]
          refine wpAnyH_take (i := 7) (v := .int .i64 ((s : Int) * 320)) rfl (by kernel_rfl) (by kernel_rfl) (by kernel_rfl) (fun _ _ _ h => h) (Or.inl ⟨by rfl, (fun W _ => by go_simp)⟩) HS7.out ?_
          simp only [List.getElem_toArray, List.getElem_cons_succ, List.getElem_cons_zero, Act.put, List.setIfInBounds_toArray, List.set_cons_zero, List.set_cons_succ]
          refine wpAnyH_ready (rs := [3]) (by kernel_rfl) (by simp) ?_
          refine AllReadyH.cons rfl (fun K hK => ?_) AllReadyH.nil
          go_simp
          refine (read_any ((s : Int) * 320) 320 _ hi1 hi2 (HKZ.out _ HS7.out).1).mono ?_
          rintro e w43 ⟨A43, c43, rfl, hc43, r43, hA43, b43⟩
          have HS43 := Lib.hid (show Below Wz.heap.size Wz.drew w43 from b43)
          refine hK.out _ _ HS43.out (fun _ => ?_)
          clear hK K
          refine wpAnyH_strong (S' := fun W => Below w43.heap.size w43 W) (fun W h => HS43.out.trans (h.mono HS43.out.size)) _ _ _ _ ?_
          have HS8 := Lib.hid (Below.refl w43.heap.size w43)
          have HCV := Lib.hid (show ∀ W, Below w43.heap.size w43 W → _ from fun W h => conv_row (c := c43) (row_below h r43))
          have HRS := Lib.hid (read_sim HSIM.out ((s : Int) * 320) 320)
          generalize hrd : read S ((s : Int) * 320) 320 = rd at *
          clear hrd r43 hA43 b43
          refine wpAnyH_take (i := 4) (v := .string (strOfNums rd)) rfl (by kernel_rfl) (by kernel_rfl) (by kernel_rfl) (fun _ _ _ h => h) (Or.inl ⟨by rfl, (fun W hW => by have q9 := HCV.out W hW; go_simp)⟩) HS8.out ?_
          simp only [List.getElem_toArray, List.getElem_cons_succ, List.getElem_cons_zero, Act.put, List.setIfInBounds_toArray, List.set_cons_zero, List.set_cons_succ]
          have HRD := rread_any ((s : Int) * 320) 320 w43 hi1 hi2 (HKZ.out _ HS43.out).2
          rw [← HRS.out] at HRD
          have HRD2 := Lib.hid HRD
          clear HRD
          refine wpAnyH_ready (rs := [8]) (by kernel_rfl) (by simp) ?_
          refine AllReadyH.cons rfl (fun K hK => ?_) AllReadyH.nil
          go_simp
          refine (HRD2.out).mono ?_
          rintro e w51 ⟨A51, c51, rfl, hc51, r51, hA51, b51⟩
          have HS51 := Lib.hid b51
          refine hK.out _ _ HS51.out (fun _ => ?_)
          clear hK K
          refine wpAnyH_strong (S' := fun W => Below w51.heap.size w51 W) (fun W h => HS51.out.trans (h.mono HS51.out.size)) _ _ _ _ ?_
          have HS9 := Lib.hid (Below.refl w51.heap.size w51)
          have HCV2 := Lib.hid (show ∀ W, Below w51.heap.size w51 W → _ from fun W h => conv_row (c := c51) (row_below h r51))
          have HSE := Lib.hid (show Below Wz.heap.size Wz.drew w51 from HS43.out.trans (HS51.out.mono HS43.out.size))
          clear r51 hA51 b51 HRD2 HRS
          refine wpAnyH_take (i := 9) (v := .string (strOfNums rd)) rfl (by kernel_rfl) (by kernel_rfl) (by kernel_rfl) (fun _ _ _ h => h) (Or.inl ⟨by rfl, (fun W hW => by have q9 := HCV2.out W hW; go_simp)⟩) HS9.out ?_
          simp only [List.getElem_toArray, List.getElem_cons_succ, List.getElem_cons_zero, Act.put, List.setIfInBounds_toArray, List.set_cons_zero, List.set_cons_succ]
          refine wpAnyH_take (i := 10) (v := .bool false) rfl (by kernel_rfl) (by kernel_rfl) (by kernel_rfl) (fun _ _ _ h => h) (Or.inl ⟨by rfl, (fun W _ => by go_simp)⟩) HS9.out ?_
          simp only [List.getElem_toArray, List.getElem_cons_succ, List.getElem_cons_zero, Act.put, List.setIfInBounds_toArray, List.set_cons_zero, List.set_cons_succ]
          refine wpAnyH_take (i := 11) (v := .bool false) rfl (by kernel_rfl) (by kernel_rfl) (by kernel_rfl) (fun _ _ _ h => h) (Or.inl ⟨by rfl, (fun W _ => by go_simp)⟩) HS9.out ?_
          simp only [List.getElem_toArray, List.getElem_cons_succ, List.getElem_cons_zero, Act.put, List.setIfInBounds_toArray, List.set_cons_zero, List.set_cons_succ]
          refine wpAnyH_take (i := 12) (v := .pointer (some ⟨g, 0, none⟩)) rfl (by kernel_rfl) (by kernel_rfl) (by kernel_rfl) (fun _ _ _ h => h) (Or.inl ⟨by rfl, (fun W _ => by go_simp)⟩) HS9.out ?_
          simp only [List.getElem_toArray, List.getElem_cons_succ, List.getElem_cons_zero, Act.put, List.setIfInBounds_toArray, List.set_cons_zero, List.set_cons_succ]
          refine wpAnyH_take (i := 13) (v := .int .i64 (s : Int)) rfl (by kernel_rfl) (by kernel_rfl) (by kernel_rfl) (fun _ _ _ h => h) (Or.inl ⟨by rfl, (fun W _ => by go_simp)⟩) HS9.out ?_
          simp only [List.getElem_toArray, List.getElem_cons_succ, List.getElem_cons_zero, Act.put, List.setIfInBounds_toArray, List.set_cons_zero, List.set_cons_succ]
          refine wpAnyH_take (i := 15) (v := .pointer (some ⟨gr, 0, none⟩)) rfl (by kernel_rfl) (by kernel_rfl) (by kernel_rfl) (fun _ _ _ h => h) (Or.inl ⟨by rfl, (fun W _ => by go_simp)⟩) HS9.out ?_
          simp only [List.getElem_toArray, List.getElem_cons_succ, List.getElem_cons_zero, Act.put, List.setIfInBounds_toArray, List.set_cons_zero, List.set_cons_succ]
          refine wpAnyH_take (i := 16) (v := .int .i64 (s : Int)) rfl (by kernel_rfl) (by kernel_rfl) (by kernel_rfl) (fun _ _ _ h => h) (Or.inl ⟨by rfl, (fun W _ => by go_simp)⟩) HS9.out ?_
          simp only [List.getElem_toArray, List.getElem_cons_succ, List.getElem_cons_zero, Act.put, List.setIfInBounds_toArray, List.set_cons_zero, List.set_cons_succ]
          refine wpAnyH_ready (rs := [14]) (by kernel_rfl) (by simp) ?_
          refine AllReadyH.cons rfl (fun K hK => ?_) AllReadyH.nil
          go_simp
          refine (wear_any (s : Int) _ (HKZ.out _ HSE.out).1).mono ?_
          rintro e w8 ⟨rfl, rfl⟩
          refine hK.out _ _ HS9.out (fun _ => ?_)
          clear hK K
          refine wpAnyH_ready (rs := [17]) (by kernel_rfl) (by simp) ?_
          refine AllReadyH.cons rfl (fun K hK => ?_) AllReadyH.nil
          go_simp
          refine (rwear_any (s : Int) _ (HKZ.out _ HSE.out).2).mono ?_
          rintro e w8 ⟨rfl, rfl⟩
          rw [← wearAt_sim HSIM.out (s : Int)]
          refine hK.out _ _ HS9.out (fun _ => ?_)
          clear hK K
          refine wpAnyH_take (i := 18) (v := .bool false) rfl (by kernel_rfl) (by kernel_rfl) (by kernel_rfl) (fun _ _ _ h => h) (Or.inl ⟨by rfl, (fun W _ => by go_simp)⟩) HS9.out ?_
          simp only [List.getElem_toArray, List.getElem_cons_succ, List.getElem_cons_zero, Act.put, List.setIfInBounds_toArray, List.set_cons_zero, List.set_cons_succ]
          refine wpAnyH_take (i := 19) (v := .bool false) rfl (by kernel_rfl) (by kernel_rfl) (by kernel_rfl) (fun _ _ _ h => h) (Or.inl ⟨by rfl, (fun W _ => by go_simp)⟩) HS9.out ?_
          simp only [List.getElem_toArray, List.getElem_cons_succ, List.getElem_cons_zero, Act.put, List.setIfInBounds_toArray, List.set_cons_zero, List.set_cons_succ]
          refine wpAnyH_done (by kernel_rfl) ?_ _
          have HBE := Lib.hid (show Below Wz.heap.size Wz w51 from ((Below.refl _ Wz).drew).trans HSE.out)
          have HBE2 := Lib.hid (HBZ.out.trans (HBE.out.mono HBZ.out.size))
          clear HKZ HCV HCV2
          go_wp2_with fail
          go_roundw
          case rel => exact ⟨s + 1, by go_num, by omega, HBE2.out⟩
          case measure => simp [intOf]; omega
        · obtain rfl : s = S.wear.length := by omega
          go_wp2_with (go_at_call 30; (with_reducible refine HRL.out.mono ?_); rintro e w8 ⟨rfl, rfl⟩; rw [HWL.out])
          go_ret
          exact ⟨rfl, HBl.out.trans (hbs.mono HBl.out.size)⟩
end Go.Proofs.Ytobjolcacopgbaa
