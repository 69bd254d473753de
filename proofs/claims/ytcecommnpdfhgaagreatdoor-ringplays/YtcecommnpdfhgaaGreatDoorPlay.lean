/-
  The walk of the law RingPlays: what any row of calls answers, which cell is the last, where the next one goes, and every byte, whatever is cut; conditions: at most six sectors and forty calls (more the law lets by).
-/
import Derived.Test.YtcecommnpdfhgaaGreatDoorMPl
import Derived.Deep.RegionHeld3
namespace Go.Proofs.YtcecommnpdfhgaaGreatDoor
open Go.RowKit
set_option linter.unusedVariables false
set_option linter.unusedSimpArgs false

set_option maxRecDepth 100000 in
set_option maxHeartbeats 8000000 in
theorem plays_within (n : Nat) (bu : Int) (a : Option Addr) (len cap : Nat) (w : World) (hacts : Acts w a len) (h6 : n ≤ 6) (h40 : len ≤ 40) (hi : I64 bu) (ht : Sha.Tabs w) :
    Calls Tryz.prog 3 #[.int .i64 (n : Int), .int .i64 bu, .slice a len cap] w fun e w' => e = .returned (.bool true) ∧ Below w.heap.size w w' := by
  have d0 : ¬ (n : Int) < 0 := by omega
  have d1 : ¬ (6 : Int) < (n : Int) := by omega
  have d4 : ¬ (40 : Int) < (len : Int) := by omega
  have HACTS := Lib.hid hacts
  have HT := Lib.hid ht
  have HI := Lib.hid hi
  have HSE := Lib.hid (sect_nat (show n ≤ 400 by omega))
  clear hacts ht hi
  go_enter Tryz.func3, Tryz.ntmps3
  go_wp2_with (first
    | (go_at_call 4; refine (alive_any _).mono ?_; rintro e W1 ⟨rfl, H1⟩; have N1 := Lib.hid (new_any (n : Int) W1))
    | (go_at_call 5; (with_reducible refine N1.out.mono ?_); rintro e W2 ⟨g, m, k, rfl, hg, hm, hk, f2', b2⟩; rw [HSE.out] at f2'; have N2 := Lib.hid (rnew_any (n : Int) W2))
    | (go_at_call 6; (with_reducible refine N2.out.mono ?_); rintro e W3 ⟨gr, mr, kr, rfl, hgr, hmr, hkr, f3', b3⟩; rw [HSE.out] at f3'; have b13 := b2.trans (b3.mono b2.size); have B3 := Lib.hid (H1.trans (b13.mono H1.size)); have FF := Lib.hid ((f2'.kept b3).raise rfl b3.size); have RR := Lib.hid f3'; have HF2 := Lib.hid f2'; have HB1 := Lib.hid H1; have HB2 := Lib.hid b2; have HB3 := Lib.hid b3; have ba : Below W3.heap.size W3 (W3.alloc (.cells #[.int .i64 0, .int .i64 0, .int .i64 (n : Int)] 29)) := (Below.refl _ W3).alloc (Nat.le_refl _) _; have HBA := Lib.hid ba; have HCap := Lib.hid (has_new W3 29 #[.int .i64 0, .int .i64 0, .int .i64 (n : Int)]); have NA := newArea_any 0 0 (n : Int) bu _ (FF.out.kept ba) ⟨⟨by omega, by omega⟩, ⟨by omega, by omega⟩, HI.out⟩; rw [fresh_wear] at NA; unfold capCells at NA; have HNA := Lib.hid NA; clear NA ba b13 f2' f3' b2 b3 H1 N1 N2)
    | (go_at_call 7; (with_reducible refine HNA.out.mono ?_); rintro e W5 ⟨x, rfl, hx, a5, b5⟩; clear HNA; have HA5 := Lib.hid a5; have HB5 := Lib.hid b5; have hc5 := HCap.out.kept b5; have q0 : W5.cell? ⟨W3.heap.size, 0, none⟩ = some (.int .i64 0) := hc5.at 0; have q1 : W5.cell? ⟨W3.heap.size, 1, none⟩ = some (.int .i64 0) := hc5.at 1; have q2 : W5.cell? ⟨W3.heap.size, 2, none⟩ = some (.int .i64 (n : Int)) := hc5.at 2; have B35 := Lib.hid (HBA.out.trans (b5.mono HBA.out.size)); have NB := rnewArea_any 0 0 (n : Int) bu W5 (RR.out.kept B35.out) ⟨⟨by omega, by omega⟩, ⟨by omega, by omega⟩, HI.out⟩; rw [fresh_wear] at NB; unfold capCells at NB; have HNB := Lib.hid NB; clear NB a5 b5 hc5)
    | (go_at_call 8; (with_reducible refine HNB.out.mono ?_); rintro e W6 ⟨y, rfl, hy, a6, b6⟩; clear HNB q0 q1 q2; have HA6 := Lib.hid a6; have HB6 := Lib.hid b6; clear a6 b6))
  obtain ⟨P, hP⟩ : ∃ P, Pt.made n 0 (n : Int) bu = P := ⟨_, rfl⟩
  obtain ⟨Q, hQ⟩ : ∃ Q, Pt.rmade n 0 (n : Int) bu = Q := ⟨_, rfl⟩
  have HLK := Lib.hid (show Like P Q by rw [← hP, ← hQ]; exact made_like _ _ _ _)
  have HPO := Lib.hid (show P.Ok n by rw [← hP]; exact Pt.made_ok (by omega) _ _ _)
  have HQO := Lib.hid (show Q.Ok n by rw [← hQ]; exact Pt.rmade_ok (by omega) _ _ _)
  rw [hP] at HA5
  rw [hQ] at HA6
  clear hP hQ
  have B36 := Lib.hid (B35.out.trans (HB6.out.mono B35.out.size))
  have s35 := B35.out.size
  have sA := HBA.out.size
  have HAT := Lib.hid (show PrAt w W3.heap.size g m k gr mr kr x y by
    have i2 := HF2.out.in
    have i3 := RR.out.in
    have s1 := HB1.out.size
    have s2 := HB2.out.size
    have s3 := HB3.out.size
    have l2 : ∀ b, In3 g m k b → W1.heap.size ≤ b := by rintro b (rfl | rfl | rfl) <;> assumption
    have l3 : ∀ b, In3 gr mr kr b → W2.heap.size ≤ b := by rintro b (rfl | rfl | rfl) <;> assumption
    refine ⟨fun b h => ?_, fun b h => ?_, fun b h1 h2 => ?_, by omega, by omega⟩
    · have := i2 b h; have := l2 b h; omega
    · have := i3 b h; have := l3 b h; omega
    · have := i2 b h1; have := l3 b h2; omega)
  have hst : Going w W3.heap.size g m k gr mr kr x y P Q n len (.int .i64 0) W6 :=
    ⟨0, fresh n, fresh n, rfl, Nat.zero_le _, Nat.zero_le _, ⟨fresh_sim _ _, few_fresh _, few_fresh _, fresh_wear n⟩, FF.out.kept B36.out, RR.out.kept B36.out, HA5.out.kept HB6.out, HA6.out, B3.out.trans (B36.out.mono B3.out.size), B36.out.size⟩
  have HST := Lib.hid hst
  obtain ⟨T, hTe⟩ : ∃ T, T = W3.heap.size := ⟨_, rfl⟩
  rw [← hTe] at HST HAT
  clear hst hTe s35 sA HA5 HA6 HB1 HB2 HB3 HB5 HB6 HBA HF2 FF RR B3 B35 B36 HCap hg hm hk hgr hmr hkr hx hy HI HSE
  go_loopw [13] (Going w T g m k gr mr kr x y P Q n len) (fun v _ => len - (intOf v).toNat)
  case atStart => exact HST.out
  case round =>
    clear HST
    obtain ⟨j, S, R, rfl, hj, hS, hG, h3x⟩ := hrel
    have j0 : (0 : Int) ≤ (j : Int) := by omega
    have HRO := Lib.hid (show R.ops = S.ops from hG.sim.ops.symm)
    by_cases hlt : j < len
    · have j1 : (j : Int) < (len : Int) := by omega
      have jw : IntKind.i64.wrap ((j : Int) + 1) = (j : Int) + 1 := by rw [IntKind.wrap_i64]; omega
      obtain ⟨b, off, ha, hA⟩ : ∃ b off, a = some ⟨b, off, none⟩ ∧ ∃ way n BA BL BC bs MA ML MC ms, ActAt w b (off + j * 4) way n BA BL BC bs MA ML MC ms := by
        rcases HACTS.out with h | ⟨b, off, h1, h2⟩
        · omega
        · exact ⟨b, off, h1, h2 j hlt⟩
      obtain ⟨way, q, BA, BL, BC, bs, MA, ML, MC, ms, hA⟩ := hA
      subst ha
      have hA1 := hA.kept h3x.low
      have c0 := hA1.c0
      have c1 := hA1.c1
      have c2 := hA1.c2
      have c3 := hA1.c3
      have HA := Lib.hid hA
      obtain ⟨D, hD⟩ : ∃ D, 2 * (len - (j + 1)) = D := ⟨_, rfl⟩
      have HG := Lib.hid (show Alike n (D + 2) S R by rw [← hD, show 2 * (len - (j + 1)) + 2 = 2 * (len - j) by omega]; exact hG)
      have HD := Lib.hid hD
      have hbA : Below wr.heap.size wr (wr.alloc (.cells #[.int .i64 way, .int .i64 q, .slice BA BL BC, .slice MA ML MC] 36)) := (Below.refl _ wr).alloc (Nat.le_refl _) _
      have H3 := Lib.hid (h3x.kept hbA)
      have HHa := Lib.hid (show Has (wr.alloc (.cells #[.int .i64 way, .int .i64 q, .slice BA BL BC, .slice MA ML MC] 36)) wr.heap.size 36 (actCells way q BA BL BC MA ML MC) from has_new wr 36 _)
      have hTa := h3x.top
      have HNF := Lib.hid (HAT.out.nf hTa)
      have HNR := Lib.hid (HAT.out.nr hTa)
      have HCF := Lib.hid (fun (A : Option Addr) (n : Nat) (zs : List Int) (h : Row w A n zs) => clear_in h (fun b hb => (HAT.out.lf b hb).1))
      have HCR := Lib.hid (fun (A : Option Addr) (n : Nat) (zs : List Int) (h : Row w A n zs) => clear_in h (fun b hb => (HAT.out.lr b hb).1))
      clear hA hA1 hG h3x hbA hD
      by_cases hB : 350 < BL
      · have iB : (350 : Int) < (BL : Int) := by omega
        go_wp2
        go_ret
        exact ⟨rfl, H3.out.low⟩
      have iB : ¬ (350 : Int) < (BL : Int) := by omega
      by_cases hM : 50 < ML
      · have iM : (50 : Int) < (ML : Int) := by omega
        go_wp2
        go_ret
        exact ⟨rfl, H3.out.low⟩
      have iM : ¬ (50 : Int) < (ML : Int) := by omega
      by_cases hw0 : way = 0
      · subst hw0
        as_aux_lemma =>
          have HG1 := Lib.hid (al_put HG.out HLK.out bs).2
          have HEq := Lib.hid (al_put HG.out HLK.out bs).1
          have HO1 := Lib.hid (show (putR S P bs).2.ops ≤ 2 * (j + 1) by have := (put_wears S P bs).2; omega)
          have H3d := Lib.hid (H3.out.kept ((Below.refl _ (wr.alloc (.cells #[.int .i64 0, .int .i64 q, .slice BA BL BC, .slice MA ML MC] 36))).drew))
          have HHd := Lib.hid (show Has (wr.alloc (.cells #[.int .i64 0, .int .i64 q, .slice BA BL BC, .slice MA ML MC] 36)).drew wr.heap.size 36 (actCells 0 q BA BL BC MA ML MC) from HHa.out)
          go_wp2_with fail
          refine wp_region_held_drew (S := fun W => Has W wr.heap.size 36 (actCells 0 q BA BL BC MA ML MC)) (by kernel_rfl) HHd.out ?_
          intro _
          refine wpAnyH_take (i := 0) (v := .pointer (some ⟨x, 0, none⟩)) rfl (by kernel_rfl) (by kernel_rfl) (by kernel_rfl) (fun _ _ _ h => h) (Or.inl ⟨by rfl, (fun W _ => by go_simp)⟩) HHd.out ?_
          simp only [List.getElem_toArray, List.getElem_cons_succ, List.getElem_cons_zero, Act.put, List.setIfInBounds_toArray, List.set_cons_zero, List.set_cons_succ]
          refine wpAnyH_take (i := 1) (v := .pointer (some ⟨wr.heap.size, 2, none⟩)) rfl (by kernel_rfl) (by kernel_rfl) (by kernel_rfl) (fun _ _ _ h => h) (Or.inl ⟨by rfl, (fun W _ => by go_simp)⟩) HHd.out ?_
          simp only [List.getElem_toArray, List.getElem_cons_succ, List.getElem_cons_zero, Act.put, List.setIfInBounds_toArray, List.set_cons_zero, List.set_cons_succ]
          refine wpAnyH_take (i := 2) (v := .slice BA BL BC) rfl (by kernel_rfl) (by kernel_rfl) (by kernel_rfl) (fun _ _ _ h => h) (Or.inl ⟨by rfl, (fun W hW => by have q9 := (act_cells hW).2.2.1; go_simp)⟩) HHd.out ?_
          simp only [List.getElem_toArray, List.getElem_cons_succ, List.getElem_cons_zero, Act.put, List.setIfInBounds_toArray, List.set_cons_zero, List.set_cons_succ]
          refine wpAnyH_take (i := 6) (v := .pointer (some ⟨y, 0, none⟩)) rfl (by kernel_rfl) (by kernel_rfl) (by kernel_rfl) (fun _ _ _ h => h) (Or.inl ⟨by rfl, (fun W _ => by go_simp)⟩) HHd.out ?_
          simp only [List.getElem_toArray, List.getElem_cons_succ, List.getElem_cons_zero, Act.put, List.setIfInBounds_toArray, List.set_cons_zero, List.set_cons_succ]
          refine wpAnyH_take (i := 7) (v := .pointer (some ⟨wr.heap.size, 2, none⟩)) rfl (by kernel_rfl) (by kernel_rfl) (by kernel_rfl) (fun _ _ _ h => h) (Or.inl ⟨by rfl, (fun W _ => by go_simp)⟩) HHd.out ?_
          simp only [List.getElem_toArray, List.getElem_cons_succ, List.getElem_cons_zero, Act.put, List.setIfInBounds_toArray, List.set_cons_zero, List.set_cons_succ]
          refine wpAnyH_take (i := 8) (v := .slice BA BL BC) rfl (by kernel_rfl) (by kernel_rfl) (by kernel_rfl) (fun _ _ _ h => h) (Or.inl ⟨by rfl, (fun W hW => by have q9 := (act_cells hW).2.2.1; go_simp)⟩) HHd.out ?_
          simp only [List.getElem_toArray, List.getElem_cons_succ, List.getElem_cons_zero, Act.put, List.setIfInBounds_toArray, List.set_cons_zero, List.set_cons_succ]
          have k7 := row_below H3d.out.low HA.out.rb
          obtain ⟨v8, w8, hrun8, o8, g8⟩ := runs_app (wr.alloc (.cells #[.int .i64 0, .int .i64 q, .slice BA BL BC, .slice MA ML MC] 36)).drew (wr.alloc (.cells #[.int .i64 0, .int .i64 q, .slice BA BL BC, .slice MA ML MC] 36)).drew.heap.size 34 (.slice none 0 0) 0 [] (own_nil _ _) BA BL BC bs k7 (row_none k7) (by omega) (Nat.le_refl _)
          rw [Nat.zero_add, List.nil_append] at o8
          have b8 : Below (wr.alloc (.cells #[.int .i64 0, .int .i64 q, .slice BA BL BC, .slice MA ML MC] 36)).drew.heap.size (wr.alloc (.cells #[.int .i64 0, .int .i64 q, .slice BA BL BC, .slice MA ML MC] 36)).drew w8 := below_own (Below.refl _ (wr.alloc (.cells #[.int .i64 0, .int .i64 q, .slice BA BL BC, .slice MA ML MC] 36)).drew) (own_nil (wr.alloc (.cells #[.int .i64 0, .int .i64 q, .slice BA BL BC, .slice MA ML MC] 36)).drew (wr.alloc (.cells #[.int .i64 0, .int .i64 q, .slice BA BL BC, .slice MA ML MC] 36)).drew.heap.size) g8 (Nat.le_refl _) (Nat.le_refl _)
          have HH8 := Lib.hid (HHd.out.kept b8)
          have H38 := Lib.hid (H3d.out.kept b8)
          refine wpAnyH_ready (rs := [3]) (by kernel_rfl) (by simp) ?_
          refine AllReadyH.cons rfl (fun K hK => ?_) AllReadyH.nil
          refine step_run (by rfl) (.const (.slice none 0 0)) (.tmp 78) rfl 34 rfl (.slice none 0 0) (.slice BA BL BC) v8 rfl rfl hrun8 ?_
          refine hK.out _ _ HH8.out (fun _ => ?_)
          clear hK K hrun8
          simp only [List.getElem_toArray, List.getElem_cons_succ, List.getElem_cons_zero, Act.put, List.setIfInBounds_toArray, List.set_cons_zero, List.set_cons_succ]
          obtain ⟨A8, c8, rfl, hc8, r8, _⟩ := o8.form
          have HPt := Lib.hid (put_ring A8 BL c8 bs w8 H38.out.a (HAT.out.nf HAT.out.x) H38.out.f HG.out.fs (by omega) (by rw [HG.out.wl]; exact HPO.out) r8)
          clear o8 g8 k7 r8 b8
          refine wpAnyH_ready (rs := [4]) (by kernel_rfl) (by simp) ?_
          refine AllReadyH.cons rfl (fun K hK => ?_) AllReadyH.nil
          go_simp
          refine (HPt.out).mono ?_
          rintro e w9 ⟨rfl, t9⟩; have HH9 := Lib.hid (HH8.out.only t9.2 HNF.out); have H39 := Lib.hid (H38.out.of_f HAT.out t9); clear t9
          refine hK.out _ _ HH9.out (fun _ => ?_)
          clear hK K
          refine wpAnyH_ready (rs := [5]) (by kernel_rfl) (by simp) ?_
          refine AllReadyH.cons rfl (fun K hK => ?_) AllReadyH.nil
          go_simp
          refine (lnum_any _ _).mono ?_
          rintro e w10 ⟨rfl, rfl⟩
          refine hK.out _ _ HH9.out (fun _ => ?_)
          clear hK K
          have HPr := Lib.hid (rput_ring BA BL BC bs w9 H39.out.b (HAT.out.nr HAT.out.y) H39.out.r HG.out.fr (by rw [HRO.out]; omega) (by rw [HG.out.wr]; exact HQO.out) (row_below H39.out.low HA.out.rb))
          rw [HEq.out] at HPr
          refine wpAnyH_ready (rs := [9]) (by kernel_rfl) (by simp) ?_
          refine AllReadyH.cons rfl (fun K hK => ?_) AllReadyH.nil
          go_simp
          refine (HPr.out).mono ?_
          rintro e w11 ⟨rfl, t11⟩; have HH11 := Lib.hid (HH9.out.only t11.2 HNR.out); have H3e := Lib.hid (H39.out.of_r HAT.out t11); clear t11
          refine hK.out _ _ HH11.out (fun _ => ?_)
          clear hK K
          refine wpAnyH_take (i := 10) (v := .bool false) rfl (by kernel_rfl) (by kernel_rfl) (by kernel_rfl) (fun _ _ _ h => h) (Or.inl ⟨by rfl, (fun W _ => by go_simp)⟩) HH11.out ?_
          simp only [List.getElem_toArray, List.getElem_cons_succ, List.getElem_cons_zero, Act.put, List.setIfInBounds_toArray, List.set_cons_zero, List.set_cons_succ]
          refine wpAnyH_done (by kernel_rfl) ?_ _
          have HLa := Lib.hid (last_any w11 H3e.out.a H3e.out.f (by rw [HG1.out.wl]; exact HPO.out))
          clear HPr HPt HH11 HH9 HH8 H39 H38 H3d HHd H3 HHa HEq
          go_wp2_with (first
            | (go_at_call 20; (with_reducible refine HLa.out.mono ?_); rintro e w20 ⟨v20, rfl, o20, b20⟩; clear HLa; obtain ⟨A20, c20, rfl, _, r20, _⟩ := o20.form; have HR20 := Lib.hid r20; have H320 := Lib.hid (H3e.out.kept b20); have HLb := Lib.hid (rlast_any w20 H320.out.b H320.out.r (by rw [HG1.out.wr]; exact HQO.out)); rw [al_hd HG1.out HLK.out] at HLb; clear o20 r20 b20 H3e)
            | (go_at_call 21; (with_reducible refine HLb.out.mono ?_); rintro e w21 ⟨v21, rfl, o21, b21⟩; clear HLb; obtain ⟨A21, c21, rfl, _, r21, _⟩ := o21.form; have hcv1 := conv_row (c := c20) (row_below b21 HR20.out); have hcv2 := conv_row (c := c21) r21; have H321 := Lib.hid (H320.out.kept b21); have HNx := Lib.hid (nexts_any w21 H321.out.a H321.out.f (by rw [HG1.out.wl]; exact HPO.out)); clear o21 r21 b21 H320 HR20)
            | (go_at_call 22; (with_reducible refine HNx.out.mono ?_); rintro e w22 ⟨rfl, b22⟩; clear HNx hcv1 hcv2; have H322 := Lib.hid (H321.out.kept b22); have HNy := Lib.hid (rnext_any w22 H322.out.b H322.out.r (by rw [HG1.out.wr]; exact HQO.out)); rw [al_hd HG1.out HLK.out] at HNy; clear b22 H321)
            | (go_at_call 23; (with_reducible refine HNy.out.mono ?_); rintro e w23 ⟨rfl, b23⟩; clear HNy; have H323 := Lib.hid (H322.out.kept b23); have HMa := Lib.hid (mays_any w23 H323.out.a H323.out.f HG1.out.fs (by have := HO1.out; omega) (by rw [HG1.out.wl]; exact HPO.out)); clear b23 H322)
            | (go_at_call 24; (with_reducible refine HMa.out.mono ?_); rintro e w24 ⟨rfl, b24⟩; clear HMa; have H324 := Lib.hid (H323.out.kept b24); have HMb := Lib.hid (rmay_any w24 H324.out.b H324.out.r HG1.out.fr (by have := HO1.out; have := HG1.out.sim.ops; omega) (by rw [HG1.out.wr]; exact HQO.out)); rw [al_may HG1.out HLK.out] at HMb; clear b24 H323)
            | (go_at_call 25; (with_reducible refine HMb.out.mono ?_); rintro e w25 ⟨rfl, b25⟩; clear HMb; have H325 := Lib.hid (H324.out.kept b25); clear b25 H324))
          go_roundw
          case rel => exact ⟨j + 1, _, _, by simp, by omega, by have := HO1.out; omega, by rw [HD.out]; exact HG1.out, H325.out⟩
          case measure => simp only [intOf]; omega
      by_cases hw1 : way = 1
      · subst hw1
        as_aux_lemma =>
          have HG1 := Lib.hid (al_cut (HG.out.less (show D ≤ D + 2 by omega)) q ms (by have := HD.out; omega))
          have HO1 := Lib.hid (show (cutAt S (max q 0).toNat (ms.take S.mem.length)).ops ≤ 2 * (j + 1) by show S.ops ≤ _; omega)
          have HC1 := Lib.hid (cut_any q MA ML MC ms (wr.alloc (.cells #[.int .i64 1, .int .i64 q, .slice BA BL BC, .slice MA ML MC] 36)) HA.out.i1 H3.out.f (row_below H3.out.low HA.out.rm) HA.out.lm (by omega) H3.out.top)
          go_wp2_with (first
            | (go_at_call 12; (with_reducible refine HC1.out.mono ?_); rintro e w5 ⟨rfl, t5⟩; clear HC1; have HH5 := Lib.hid (HHa.out.only t5.2 HNF.out); have H35 := Lib.hid (H3.out.of_f HAT.out t5); obtain ⟨e0, e1, e2, e3⟩ := act_cells HH5.out; have HC2 := Lib.hid (rcutAt_any q MA ML MC ms w5 H35.out.r (row_below H35.out.low HA.out.rm) (HCR.out _ _ _ HA.out.rm) (by omega) H35.out.top); clear t5 H3 HHa)
            | (go_at_call 13; (with_reducible refine HC2.out.mono ?_); rintro e w6 ⟨rfl, t6⟩; clear HC2 e0 e1 e2 e3; have H3e := Lib.hid (H35.out.of_r HAT.out t6); have HLa := Lib.hid (last_any w6 H3e.out.a H3e.out.f (by rw [HG1.out.wl]; exact HPO.out)); clear t6 H35 HH5)
            | (go_at_call 20; (with_reducible refine HLa.out.mono ?_); rintro e w20 ⟨v20, rfl, o20, b20⟩; clear HLa; obtain ⟨A20, c20, rfl, _, r20, _⟩ := o20.form; have HR20 := Lib.hid r20; have H320 := Lib.hid (H3e.out.kept b20); have HLb := Lib.hid (rlast_any w20 H320.out.b H320.out.r (by rw [HG1.out.wr]; exact HQO.out)); rw [al_hd HG1.out HLK.out] at HLb; clear o20 r20 b20 H3e)
            | (go_at_call 21; (with_reducible refine HLb.out.mono ?_); rintro e w21 ⟨v21, rfl, o21, b21⟩; clear HLb; obtain ⟨A21, c21, rfl, _, r21, _⟩ := o21.form; have hcv1 := conv_row (c := c20) (row_below b21 HR20.out); have hcv2 := conv_row (c := c21) r21; have H321 := Lib.hid (H320.out.kept b21); have HNx := Lib.hid (nexts_any w21 H321.out.a H321.out.f (by rw [HG1.out.wl]; exact HPO.out)); clear o21 r21 b21 H320 HR20)
            | (go_at_call 22; (with_reducible refine HNx.out.mono ?_); rintro e w22 ⟨rfl, b22⟩; clear HNx hcv1 hcv2; have H322 := Lib.hid (H321.out.kept b22); have HNy := Lib.hid (rnext_any w22 H322.out.b H322.out.r (by rw [HG1.out.wr]; exact HQO.out)); rw [al_hd HG1.out HLK.out] at HNy; clear b22 H321)
            | (go_at_call 23; (with_reducible refine HNy.out.mono ?_); rintro e w23 ⟨rfl, b23⟩; clear HNy; have H323 := Lib.hid (H322.out.kept b23); have HMa := Lib.hid (mays_any w23 H323.out.a H323.out.f HG1.out.fs (by have := HO1.out; omega) (by rw [HG1.out.wl]; exact HPO.out)); clear b23 H322)
            | (go_at_call 24; (with_reducible refine HMa.out.mono ?_); rintro e w24 ⟨rfl, b24⟩; clear HMa; have H324 := Lib.hid (H323.out.kept b24); have HMb := Lib.hid (rmay_any w24 H324.out.b H324.out.r HG1.out.fr (by have := HO1.out; have := HG1.out.sim.ops; omega) (by rw [HG1.out.wr]; exact HQO.out)); rw [al_may HG1.out HLK.out] at HMb; clear b24 H323)
            | (go_at_call 25; (with_reducible refine HMb.out.mono ?_); rintro e w25 ⟨rfl, b25⟩; clear HMb; have H325 := Lib.hid (H324.out.kept b25); clear b25 H324))
          go_roundw
          case rel => exact ⟨j + 1, _, _, by simp, by omega, by have := HO1.out; omega, by rw [HD.out]; exact HG1.out, H325.out⟩
          case measure => simp only [intOf]; omega
      by_cases hw2 : way = 2
      · subst hw2
        as_aux_lemma =>
          have HG1 := Lib.hid (al_power (HG.out.less (show D ≤ D + 2 by omega)))
          have HO1 := Lib.hid (show (power S).ops ≤ 2 * (j + 1) by show S.ops ≤ _; omega)
          have HC1 := Lib.hid (power_any (wr.alloc (.cells #[.int .i64 2, .int .i64 q, .slice BA BL BC, .slice MA ML MC] 36)) H3.out.f)
          go_wp2_with (first
            | (go_at_call 14; (with_reducible refine HC1.out.mono ?_); rintro e w5 ⟨rfl, t5⟩; clear HC1; have H35 := Lib.hid (H3.out.of_f HAT.out t5); have HC2 := Lib.hid (rpower_any w5 H35.out.r); clear t5 H3)
            | (go_at_call 15; (with_reducible refine HC2.out.mono ?_); rintro e w6 ⟨rfl, t6⟩; clear HC2; have H3e := Lib.hid (H35.out.of_r HAT.out t6); have HLa := Lib.hid (last_any w6 H3e.out.a H3e.out.f (by rw [HG1.out.wl]; exact HPO.out)); clear t6 H35)
            | (go_at_call 20; (with_reducible refine HLa.out.mono ?_); rintro e w20 ⟨v20, rfl, o20, b20⟩; clear HLa; obtain ⟨A20, c20, rfl, _, r20, _⟩ := o20.form; have HR20 := Lib.hid r20; have H320 := Lib.hid (H3e.out.kept b20); have HLb := Lib.hid (rlast_any w20 H320.out.b H320.out.r (by rw [HG1.out.wr]; exact HQO.out)); rw [al_hd HG1.out HLK.out] at HLb; clear o20 r20 b20 H3e)
            | (go_at_call 21; (with_reducible refine HLb.out.mono ?_); rintro e w21 ⟨v21, rfl, o21, b21⟩; clear HLb; obtain ⟨A21, c21, rfl, _, r21, _⟩ := o21.form; have hcv1 := conv_row (c := c20) (row_below b21 HR20.out); have hcv2 := conv_row (c := c21) r21; have H321 := Lib.hid (H320.out.kept b21); have HNx := Lib.hid (nexts_any w21 H321.out.a H321.out.f (by rw [HG1.out.wl]; exact HPO.out)); clear o21 r21 b21 H320 HR20)
            | (go_at_call 22; (with_reducible refine HNx.out.mono ?_); rintro e w22 ⟨rfl, b22⟩; clear HNx hcv1 hcv2; have H322 := Lib.hid (H321.out.kept b22); have HNy := Lib.hid (rnext_any w22 H322.out.b H322.out.r (by rw [HG1.out.wr]; exact HQO.out)); rw [al_hd HG1.out HLK.out] at HNy; clear b22 H321)
            | (go_at_call 23; (with_reducible refine HNy.out.mono ?_); rintro e w23 ⟨rfl, b23⟩; clear HNy; have H323 := Lib.hid (H322.out.kept b23); have HMa := Lib.hid (mays_any w23 H323.out.a H323.out.f HG1.out.fs (by have := HO1.out; omega) (by rw [HG1.out.wl]; exact HPO.out)); clear b23 H322)
            | (go_at_call 24; (with_reducible refine HMa.out.mono ?_); rintro e w24 ⟨rfl, b24⟩; clear HMa; have H324 := Lib.hid (H323.out.kept b24); have HMb := Lib.hid (rmay_any w24 H324.out.b H324.out.r HG1.out.fr (by have := HO1.out; have := HG1.out.sim.ops; omega) (by rw [HG1.out.wr]; exact HQO.out)); rw [al_may HG1.out HLK.out] at HMb; clear b24 H323)
            | (go_at_call 25; (with_reducible refine HMb.out.mono ?_); rintro e w25 ⟨rfl, b25⟩; clear HMb; have H325 := Lib.hid (H324.out.kept b25); clear b25 H324))
          go_roundw
          case rel => exact ⟨j + 1, _, _, by simp, by omega, by have := HO1.out; omega, by rw [HD.out]; exact HG1.out, H325.out⟩
          case measure => simp only [intOf]; omega
      by_cases hw3 : way = 3
      · subst hw3
        as_aux_lemma =>
          have HG1 := Lib.hid (al_erase (HG.out.less (show D + 1 ≤ D + 2 by omega)) q)
          have HO1 := Lib.hid (show (erase S q).2.ops ≤ 2 * (j + 1) by have := (erase_wears S q).2; omega)
          have HC1 := Lib.hid (erase_any q (wr.alloc (.cells #[.int .i64 3, .int .i64 q, .slice BA BL BC, .slice MA ML MC] 36)) H3.out.f (by omega) HG.out.fs)
          go_wp2_with (first
            | (go_at_call 16; (with_reducible refine HC1.out.mono ?_); rintro e w5 ⟨rfl, t5⟩; clear HC1; have HH5 := Lib.hid (HHa.out.only t5.2 HNF.out); have H35 := Lib.hid (H3.out.of_f HAT.out t5); obtain ⟨e0, e1, e2, e3⟩ := act_cells HH5.out; have HC2 := Lib.hid (rerase_any q w5 H35.out.r (by rw [HRO.out]; omega) HG.out.fr); clear t5 H3 HHa)
            | (go_at_call 17; (with_reducible refine HC2.out.mono ?_); rintro e w6 ⟨rfl, t6⟩; clear HC2 e0 e1 e2 e3; have H3e := Lib.hid (H35.out.of_r HAT.out t6); have HLa := Lib.hid (last_any w6 H3e.out.a H3e.out.f (by rw [HG1.out.wl]; exact HPO.out)); clear t6 H35 HH5)
            | (go_at_call 20; (with_reducible refine HLa.out.mono ?_); rintro e w20 ⟨v20, rfl, o20, b20⟩; clear HLa; obtain ⟨A20, c20, rfl, _, r20, _⟩ := o20.form; have HR20 := Lib.hid r20; have H320 := Lib.hid (H3e.out.kept b20); have HLb := Lib.hid (rlast_any w20 H320.out.b H320.out.r (by rw [HG1.out.wr]; exact HQO.out)); rw [al_hd HG1.out HLK.out] at HLb; clear o20 r20 b20 H3e)
            | (go_at_call 21; (with_reducible refine HLb.out.mono ?_); rintro e w21 ⟨v21, rfl, o21, b21⟩; clear HLb; obtain ⟨A21, c21, rfl, _, r21, _⟩ := o21.form; have hcv1 := conv_row (c := c20) (row_below b21 HR20.out); have hcv2 := conv_row (c := c21) r21; have H321 := Lib.hid (H320.out.kept b21); have HNx := Lib.hid (nexts_any w21 H321.out.a H321.out.f (by rw [HG1.out.wl]; exact HPO.out)); clear o21 r21 b21 H320 HR20)
            | (go_at_call 22; (with_reducible refine HNx.out.mono ?_); rintro e w22 ⟨rfl, b22⟩; clear HNx hcv1 hcv2; have H322 := Lib.hid (H321.out.kept b22); have HNy := Lib.hid (rnext_any w22 H322.out.b H322.out.r (by rw [HG1.out.wr]; exact HQO.out)); rw [al_hd HG1.out HLK.out] at HNy; clear b22 H321)
            | (go_at_call 23; (with_reducible refine HNy.out.mono ?_); rintro e w23 ⟨rfl, b23⟩; clear HNy; have H323 := Lib.hid (H322.out.kept b23); have HMa := Lib.hid (mays_any w23 H323.out.a H323.out.f HG1.out.fs (by have := HO1.out; omega) (by rw [HG1.out.wl]; exact HPO.out)); clear b23 H322)
            | (go_at_call 24; (with_reducible refine HMa.out.mono ?_); rintro e w24 ⟨rfl, b24⟩; clear HMa; have H324 := Lib.hid (H323.out.kept b24); have HMb := Lib.hid (rmay_any w24 H324.out.b H324.out.r HG1.out.fr (by have := HO1.out; have := HG1.out.sim.ops; omega) (by rw [HG1.out.wr]; exact HQO.out)); rw [al_may HG1.out HLK.out] at HMb; clear b24 H323)
            | (go_at_call 25; (with_reducible refine HMb.out.mono ?_); rintro e w25 ⟨rfl, b25⟩; clear HMb; have H325 := Lib.hid (H324.out.kept b25); clear b25 H324))
          go_roundw
          case rel => exact ⟨j + 1, _, _, by simp, by omega, by have := HO1.out; omega, by rw [HD.out]; exact HG1.out, H325.out⟩
          case measure => simp only [intOf]; omega
      by_cases hw4 : way = 4
      · subst hw4
        as_aux_lemma =>
          obtain ⟨z, hz⟩ : ∃ z, IntKind.i64.wrap (q * 320) = z := ⟨_, rfl⟩
          have HZ := Lib.hid (show I64 z by rw [← hz, IntKind.wrap_i64]; exact ⟨by omega, by omega⟩)
          have HG1 := Lib.hid (al_prog (HG.out.less (show D + 1 ≤ D + 2 by omega)) z bs)
          have HO1 := Lib.hid (show (prog S z bs).2.ops ≤ 2 * (j + 1) by have := (prog_wears S z bs).2; omega)
          have HC1 := Lib.hid (program_any z BA BL BC bs (wr.alloc (.cells #[.int .i64 4, .int .i64 q, .slice BA BL BC, .slice MA ML MC] 36)) HZ.out H3.out.f (row_below H3.out.low HA.out.rb) (HCF.out _ _ _ HA.out.rb) (by omega))
          go_wp2_with (first
            | (go_at_call 18; (with_reducible refine HC1.out.mono ?_); rintro e w5 ⟨rfl, t5⟩; clear HC1; have HH5 := Lib.hid (HHa.out.only t5.2 HNF.out); have H35 := Lib.hid (H3.out.of_f HAT.out t5); obtain ⟨e0, e1, e2, e3⟩ := act_cells HH5.out; have HC2 := Lib.hid (rprogram_any z BA BL BC bs w5 HZ.out H35.out.r (row_below H35.out.low HA.out.rb) (by omega) (HCR.out _ _ _ HA.out.rb) (by rw [HRO.out]; omega)); clear t5 H3 HHa)
            | (go_at_call 19; (with_reducible refine HC2.out.mono ?_); rintro e w6 ⟨rfl, t6⟩; clear HC2 e0 e1 e2 e3; have H3e := Lib.hid (H35.out.of_r HAT.out t6); have HLa := Lib.hid (last_any w6 H3e.out.a H3e.out.f (by rw [HG1.out.wl]; exact HPO.out)); clear t6 H35 HH5)
            | (go_at_call 20; (with_reducible refine HLa.out.mono ?_); rintro e w20 ⟨v20, rfl, o20, b20⟩; clear HLa; obtain ⟨A20, c20, rfl, _, r20, _⟩ := o20.form; have HR20 := Lib.hid r20; have H320 := Lib.hid (H3e.out.kept b20); have HLb := Lib.hid (rlast_any w20 H320.out.b H320.out.r (by rw [HG1.out.wr]; exact HQO.out)); rw [al_hd HG1.out HLK.out] at HLb; clear o20 r20 b20 H3e)
            | (go_at_call 21; (with_reducible refine HLb.out.mono ?_); rintro e w21 ⟨v21, rfl, o21, b21⟩; clear HLb; obtain ⟨A21, c21, rfl, _, r21, _⟩ := o21.form; have hcv1 := conv_row (c := c20) (row_below b21 HR20.out); have hcv2 := conv_row (c := c21) r21; have H321 := Lib.hid (H320.out.kept b21); have HNx := Lib.hid (nexts_any w21 H321.out.a H321.out.f (by rw [HG1.out.wl]; exact HPO.out)); clear o21 r21 b21 H320 HR20)
            | (go_at_call 22; (with_reducible refine HNx.out.mono ?_); rintro e w22 ⟨rfl, b22⟩; clear HNx hcv1 hcv2; have H322 := Lib.hid (H321.out.kept b22); have HNy := Lib.hid (rnext_any w22 H322.out.b H322.out.r (by rw [HG1.out.wr]; exact HQO.out)); rw [al_hd HG1.out HLK.out] at HNy; clear b22 H321)
            | (go_at_call 23; (with_reducible refine HNy.out.mono ?_); rintro e w23 ⟨rfl, b23⟩; clear HNy; have H323 := Lib.hid (H322.out.kept b23); have HMa := Lib.hid (mays_any w23 H323.out.a H323.out.f HG1.out.fs (by have := HO1.out; omega) (by rw [HG1.out.wl]; exact HPO.out)); clear b23 H322)
            | (go_at_call 24; (with_reducible refine HMa.out.mono ?_); rintro e w24 ⟨rfl, b24⟩; clear HMa; have H324 := Lib.hid (H323.out.kept b24); have HMb := Lib.hid (rmay_any w24 H324.out.b H324.out.r HG1.out.fr (by have := HO1.out; have := HG1.out.sim.ops; omega) (by rw [HG1.out.wr]; exact HQO.out)); rw [al_may HG1.out HLK.out] at HMb; clear b24 H323)
            | (go_at_call 25; (with_reducible refine HMb.out.mono ?_); rintro e w25 ⟨rfl, b25⟩; clear HMb; have H325 := Lib.hid (H324.out.kept b25); clear b25 H324))
          go_roundw
          case rel => exact ⟨j + 1, _, _, by simp, by omega, by have := HO1.out; omega, by rw [HD.out]; exact HG1.out, H325.out⟩
          case measure => simp only [intOf]; omega
      as_aux_lemma =>
        have HG1 := Lib.hid (HG.out.less (show D ≤ D + 2 by omega))
        have HO1 := Lib.hid (show S.ops ≤ 2 * (j + 1) by omega)
        have H3e := H3
        have HLa := Lib.hid (last_any (wr.alloc (.cells #[.int .i64 way, .int .i64 q, .slice BA BL BC, .slice MA ML MC] 36)) H3e.out.a H3e.out.f (by rw [HG1.out.wl]; exact HPO.out))
        go_wp2_with (first
          | (go_at_call 20; (with_reducible refine HLa.out.mono ?_); rintro e w20 ⟨v20, rfl, o20, b20⟩; clear HLa; obtain ⟨A20, c20, rfl, _, r20, _⟩ := o20.form; have HR20 := Lib.hid r20; have H320 := Lib.hid (H3e.out.kept b20); have HLb := Lib.hid (rlast_any w20 H320.out.b H320.out.r (by rw [HG1.out.wr]; exact HQO.out)); rw [al_hd HG1.out HLK.out] at HLb; clear o20 r20 b20 H3e)
          | (go_at_call 21; (with_reducible refine HLb.out.mono ?_); rintro e w21 ⟨v21, rfl, o21, b21⟩; clear HLb; obtain ⟨A21, c21, rfl, _, r21, _⟩ := o21.form; have hcv1 := conv_row (c := c20) (row_below b21 HR20.out); have hcv2 := conv_row (c := c21) r21; have H321 := Lib.hid (H320.out.kept b21); have HNx := Lib.hid (nexts_any w21 H321.out.a H321.out.f (by rw [HG1.out.wl]; exact HPO.out)); clear o21 r21 b21 H320 HR20)
          | (go_at_call 22; (with_reducible refine HNx.out.mono ?_); rintro e w22 ⟨rfl, b22⟩; clear HNx hcv1 hcv2; have H322 := Lib.hid (H321.out.kept b22); have HNy := Lib.hid (rnext_any w22 H322.out.b H322.out.r (by rw [HG1.out.wr]; exact HQO.out)); rw [al_hd HG1.out HLK.out] at HNy; clear b22 H321)
          | (go_at_call 23; (with_reducible refine HNy.out.mono ?_); rintro e w23 ⟨rfl, b23⟩; clear HNy; have H323 := Lib.hid (H322.out.kept b23); have HMa := Lib.hid (mays_any w23 H323.out.a H323.out.f HG1.out.fs (by have := HO1.out; omega) (by rw [HG1.out.wl]; exact HPO.out)); clear b23 H322)
          | (go_at_call 24; (with_reducible refine HMa.out.mono ?_); rintro e w24 ⟨rfl, b24⟩; clear HMa; have H324 := Lib.hid (H323.out.kept b24); have HMb := Lib.hid (rmay_any w24 H324.out.b H324.out.r HG1.out.fr (by have := HO1.out; have := HG1.out.sim.ops; omega) (by rw [HG1.out.wr]; exact HQO.out)); rw [al_may HG1.out HLK.out] at HMb; clear b24 H323)
          | (go_at_call 25; (with_reducible refine HMb.out.mono ?_); rintro e w25 ⟨rfl, b25⟩; clear HMb; have H325 := Lib.hid (H324.out.kept b25); clear b25 H324))
        go_roundw
        case rel => exact ⟨j + 1, _, _, by simp, by omega, by have := HO1.out; omega, by rw [HD.out]; exact HG1.out, H325.out⟩
        case measure => simp only [intOf]; omega
    · obtain rfl : j = len := by omega
      as_aux_lemma =>
        have j1 : ¬ (j : Int) < (j : Int) := by omega
        obtain ⟨dg, hdg⟩ : ∃ dg, aDig S P = dg := ⟨_, rfl⟩
        have HDL := Lib.hid (show dg.length = 32 by rw [← hdg]; rfl)
        have heq := Sha.eq24 dg HDL.out
        have HG := Lib.hid hG
        have H3 := Lib.hid h3x
        have HD1 := Lib.hid (adigest_any wr h3x.a h3x.f (by rw [hG.wl]; exact HPO.out) hG.fs (by omega) (HT.out.kept h3x.low))
        rw [hdg] at HD1
        have HAl := Lib.hid (show aDig R Q = dg by rw [al_dig hG HLK.out]; exact hdg)
        clear h3x hG hdg
        go_wp2_with (first
          | (go_at_call 26; (with_reducible refine HD1.out.mono ?_); rintro e w26 ⟨rfl, b26⟩; clear HD1; have H326 := Lib.hid (H3.out.kept b26); have HD2 := Lib.hid (radigest_any w26 H326.out.b H326.out.r (by rw [HG.out.wr]; exact HQO.out) HG.out.fr (by rw [HRO.out]; omega)); rw [HAl.out] at HD2; clear b26)
          | (go_at_call 27; (with_reducible refine HD2.out.mono ?_); rintro e w27 ⟨rfl, b27⟩; clear HD2; have H327 := Lib.hid (H326.out.kept b27); clear b27))
        go_ret
        exact ⟨rfl, H327.out.low⟩
end Go.Proofs.YtcecommnpdfhgaaGreatDoor
