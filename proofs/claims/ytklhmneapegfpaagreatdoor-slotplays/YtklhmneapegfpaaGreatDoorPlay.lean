/-
  The walk of the law SlotPlays: what any row of writes answers, which chunks may be written, and which images slots have, whatever is cut; conditions: at most eighteen sectors and forty calls (more the law lets by).
-/
import Derived.Test.YtklhmneapegfpaaGreatDoorPb
namespace Go.Proofs.YtklhmneapegfpaaGreatDoor
open Go.RowKit
set_option linter.unusedVariables false
set_option linter.unusedSimpArgs false

set_option maxRecDepth 100000 in
set_option maxHeartbeats 8000000 in
theorem plays_within (n : Nat) (sec bu : Int) (a : Option Addr) (len cap : Nat) (size : Int) (w : World) (hacts : Acts w a len) (h6 : n ≤ 18) (h40 : len ≤ 40) (hi : I64 bu) (hz : I64 size) (ht : Sha.Tabs w) :
    Calls Tryz.prog 3 #[.int .i64 (n : Int), .int .i64 sec, .int .i64 bu, .slice a len cap, .int .i64 size] w fun e w' => e = .returned (.bool true) ∧ Below w.heap.size w w' := by
  have d0 : ¬ (n : Int) < 0 := by omega
  have d1 : ¬ (18 : Int) < (n : Int) := by omega
  have d4 : ¬ (40 : Int) < (len : Int) := by omega
  have HACTS := Lib.hid hacts
  have HT := Lib.hid ht
  have HI := Lib.hid hi
  have HSZ := Lib.hid hz
  have HSE := Lib.hid (sect_nat (show n ≤ 400 by omega))
  clear hacts ht hi hz
  go_enter Tryz.func3, Tryz.ntmps3
  go_wp2_with (first
    | (go_at_call 4; refine (alive_any _).mono ?_; rintro e W1 ⟨rfl, H1⟩; have N1 := Lib.hid (new_any (n : Int) W1))
    | (go_at_call 5; (with_reducible refine N1.out.mono ?_); rintro e W2 ⟨g, m, k, rfl, hg, hm, hk, f2', b2⟩; rw [HSE.out] at f2'; have N2 := Lib.hid (rnew_any (n : Int) W2))
    | (go_at_call 6; (with_reducible refine N2.out.mono ?_); rintro e W3 ⟨gr, mr, kr, rfl, hgr, hmr, hkr, f3', b3⟩; rw [HSE.out] at f3'; have b13 := b2.trans (b3.mono b2.size); have B3 := Lib.hid (H1.trans (b13.mono H1.size)); have FF := Lib.hid ((f2'.kept b3).raise rfl b3.size); have RR := Lib.hid f3'; have HF2 := Lib.hid f2'; have HB1 := Lib.hid H1; have HB2 := Lib.hid b2; have HB3 := Lib.hid b3; have NA := newArea_any 0 0 (n : Int) bu W3 FF.out ⟨⟨by omega, by omega⟩, ⟨by omega, by omega⟩, HI.out⟩; rw [fresh_wear] at NA; unfold capCells at NA; have HNA := Lib.hid NA; clear NA b13 f2' f3' b2 b3 H1 N1 N2)
    | (go_at_call 7; (with_reducible refine HNA.out.mono ?_); rintro e W5 ⟨x, rfl, hx, a5, b5⟩; clear HNA; have HA5 := Lib.hid a5; have HB5 := Lib.hid b5; have NB := rnewArea_any 0 0 (n : Int) bu W5 (RR.out.kept HB5.out) ⟨⟨by omega, by omega⟩, ⟨by omega, by omega⟩, HI.out⟩; rw [fresh_wear] at NB; unfold capCells at NB; have HNB := Lib.hid NB; clear NB a5 b5)
    | (go_at_call 8; (with_reducible refine HNB.out.mono ?_); rintro e W6 ⟨y, rfl, hy, a6, b6⟩; clear HNB; have HA6 := Lib.hid a6; have HB6 := Lib.hid b6; clear a6 b6))
  obtain ⟨P, hP⟩ : ∃ P, Pt.made n 0 (n : Int) bu = P := ⟨_, rfl⟩
  obtain ⟨Q, hQ⟩ : ∃ Q, Pt.rmade n 0 (n : Int) bu = Q := ⟨_, rfl⟩
  have HLK := Lib.hid (show Like P Q by rw [← hP, ← hQ]; exact made_like _ _ _ _)
  have HPO := Lib.hid (show P.Ok n by rw [← hP]; exact Pt.made_ok (by omega) _ _ _)
  have HQO := Lib.hid (show Q.Ok n by rw [← hQ]; exact Pt.rmade_ok (by omega) _ _ _)
  rw [hP] at HA5
  rw [hQ] at HA6
  clear hP hQ
  have B36 := Lib.hid (HB5.out.trans (HB6.out.mono HB5.out.size))
  have s35 := HB5.out.size
  have HAT := Lib.hid (show PrAt w W3.heap.size g m k gr mr kr x y by
    have i2 := HF2.out.in
    have i3 := RR.out.in
    have s1 := HB1.out.size
    have s2 := HB2.out.size
    have s3 := HB3.out.size
    have l2 : ∀ b, In3 g m k b → W1.heap.size ≤ b := by rintro b (rfl | rfl | rfl) <;> assumption
    have l3 : ∀ b, In3 gr mr kr b → W2.heap.size ≤ b := by rintro b (rfl | rfl | rfl) <;> assumption
    refine ⟨fun b h => ?_, fun b h => ?_, fun b h1 h2 => ?_, by omega, by omega⟩
    · have := i2 b h; have := l2 b h; omega
    · have := i3 b h; have := l3 b h; omega
    · have := i2 b h1; have := l3 b h2; omega)
  have hst : Going w W3.heap.size g m k gr mr kr x y P Q n len (.int .i64 0) W6 :=
    ⟨0, fresh n, fresh n, rfl, Nat.zero_le _, Nat.zero_le _, ⟨fresh_sim _ _, few_fresh _, few_fresh _, fresh_wear n⟩, FF.out.kept B36.out, RR.out.kept B36.out, HA5.out.kept HB6.out, HA6.out, B3.out.trans (B36.out.mono B3.out.size), B36.out.size⟩
  have HST := Lib.hid hst
  obtain ⟨T, hTe⟩ : ∃ T, T = W3.heap.size := ⟨_, rfl⟩
  rw [← hTe] at HST HAT
  clear hst hTe s35 HA5 HA6 HB1 HB2 HB3 HB5 HB6 HF2 FF RR B3 B36 hg hm hk hgr hmr hkr hx hy HI HSE
  go_loopw [16] (Going w T g m k gr mr kr x y P Q n len) (fun v _ => len - (intOf v).toNat)
  case atStart => exact HST.out
  case round =>
    clear HST
    obtain ⟨j, S, R, rfl, hj, hS, hG, h3x⟩ := hrel
    have j0 : (0 : Int) ≤ (j : Int) := by omega
    have HRO := Lib.hid (show R.ops = S.ops from hG.sim.ops.symm)
    by_cases hlt : j < len
    · have j1 : (j : Int) < (len : Int) := by omega
      have jw : IntKind.i64.wrap ((j : Int) + 1) = (j : Int) + 1 := by rw [IntKind.wrap_i64]; omega
      obtain ⟨b, off, ha, hA⟩ : ∃ b off, a = some ⟨b, off, none⟩ ∧ ∃ sl q nn BA BL BC bs MA ML MC ms cut, ActAt w b (off + j * 6) sl q nn BA BL BC bs MA ML MC ms cut := by
        rcases HACTS.out with h | ⟨b, off, h1, h2⟩
        · omega
        · exact ⟨b, off, h1, h2 j hlt⟩
      obtain ⟨sl, q, nn, BA, BL, BC, bs, MA, ML, MC, ms, cut, hA⟩ := hA
      subst ha
      have hA1 := hA.kept h3x.low
      have c0 := hA1.c0
      have c1 := hA1.c1
      have c2 := hA1.c2
      have c3 := hA1.c3
      have c4 := hA1.c4
      have c5 := hA1.c5
      have HA := Lib.hid hA
      obtain ⟨D, hD⟩ : ∃ D, 2 * (len - (j + 1)) = D := ⟨_, rfl⟩
      have HG := Lib.hid (show Alike n (D + 2) S R by rw [← hD, show 2 * (len - (j + 1)) + 2 = 2 * (len - j) by omega]; exact hG)
      have HD := Lib.hid hD
      have hTa := h3x.top
      have HNF := Lib.hid (HAT.out.nf hTa)
      have HNR := Lib.hid (HAT.out.nr hTa)
      have HCF := Lib.hid (fun (A : Option Addr) (n : Nat) (zs : List Int) (h : Row w A n zs) => clear_in h (fun b hb => (HAT.out.lf b hb).1))
      have HCR := Lib.hid (fun (A : Option Addr) (n : Nat) (zs : List Int) (h : Row w A n zs) => clear_in h (fun b hb => (HAT.out.lr b hb).1))
      have H3x := Lib.hid h3x
      have HBB := Lib.hid HA.out.rb
      clear hA hA1 hG h3x hD
      cases cut
      · as_aux_lemma =>
          have hbA : Below wr.heap.size wr (wr.alloc (.cells #[.int .i64 sl, .int .i64 q, .int .i64 nn, .slice BA BL BC, .slice MA ML MC, .bool false] 36)) := (Below.refl _ wr).alloc (Nat.le_refl _) _
          have H3 := Lib.hid (H3x.out.kept hbA)
          have HHa := Lib.hid (show Has (wr.alloc (.cells #[.int .i64 sl, .int .i64 q, .int .i64 nn, .slice BA BL BC, .slice MA ML MC, .bool false] 36)) wr.heap.size 36 (actCells sl q nn BA BL BC MA ML MC false) from has_new wr 36 _)
          clear hbA
          by_cases hB : 700 < BL
          · have iB : (700 : Int) < (BL : Int) := by omega
            go_wp2
            go_ret
            exact ⟨rfl, H3.out.low⟩
          have iB : ¬ (700 : Int) < (BL : Int) := by omega
          by_cases hM : 50 < ML
          · have iM : (50 : Int) < (ML : Int) := by omega
            go_wp2
            go_ret
            exact ⟨rfl, H3.out.low⟩
          have iM : ¬ (50 : Int) < (ML : Int) := by omega
          have HG1 := HG
          have HO1 := Lib.hid (show S.ops ≤ 2 * j from hS)
          have HRO1 := HRO
          have H3e := H3
          have HHe := HHa
          clear HG hS HRO H3 HHa
          go_wp2_with fail
          have H3d := Lib.hid (H3e.out.kept ((Below.refl _ (wr.alloc (.cells #[.int .i64 sl, .int .i64 q, .int .i64 nn, .slice BA BL BC, .slice MA ML MC, .bool false] 36))).drew))
          have HHd := Lib.hid (show Has (wr.alloc (.cells #[.int .i64 sl, .int .i64 q, .int .i64 nn, .slice BA BL BC, .slice MA ML MC, .bool false] 36)).drew wr.heap.size 36 (actCells sl q nn BA BL BC MA ML MC false) from HHe.out)
          clear H3e HHe
          obtain ⟨fr, hfr⟩ : ∃ fr, freeS S P (atI sl q sec) = fr := ⟨_, rfl⟩
          have HM1 := Lib.hid (smay_any sl q sec (wr.alloc (.cells #[.int .i64 sl, .int .i64 q, .int .i64 nn, .slice BA BL BC, .slice MA ML MC, .bool false] 36)).drew H3d.out.a H3d.out.f HG1.out.fs (by have := HO1.out; omega) (by rw [HG1.out.wl]; exact HPO.out))
          rw [hfr] at HM1
          have HFR := Lib.hid ((al_free HG1.out HLK.out (atI sl q sec)).trans hfr)
          clear hfr
          refine wp_region_held_drew (S := fun W => Has W wr.heap.size 36 (actCells sl q nn BA BL BC MA ML MC false)) (by kernel_rfl) HHd.out ?_
          intro _
          refine wpAnyH_take (i := 0) (v := .pointer (some ⟨x, 0, none⟩)) rfl (by kernel_rfl) (by kernel_rfl) (by kernel_rfl) (fun _ _ _ h => h) (Or.inl ⟨by rfl, (fun W _ => by go_simp)⟩) HHd.out ?_
          simp only [List.getElem_toArray, List.getElem_cons_succ, List.getElem_cons_zero, Act.put, List.setIfInBounds_toArray, List.set_cons_zero, List.set_cons_succ]
          refine wpAnyH_take (i := 1) (v := .pointer (some ⟨wr.heap.size, 0, none⟩)) rfl (by kernel_rfl) (by kernel_rfl) (by kernel_rfl) (fun _ _ _ h => h) (Or.inl ⟨by rfl, (fun W _ => by go_simp)⟩) HHd.out ?_
          simp only [List.getElem_toArray, List.getElem_cons_succ, List.getElem_cons_zero, Act.put, List.setIfInBounds_toArray, List.set_cons_zero, List.set_cons_succ]
          refine wpAnyH_take (i := 2) (v := .int .i64 sl) rfl (by kernel_rfl) (by kernel_rfl) (by kernel_rfl) (fun _ _ _ h => h) (Or.inl ⟨by rfl, (fun W hW => by have q9 := (act_cells hW).1; go_simp)⟩) HHd.out ?_
          simp only [List.getElem_toArray, List.getElem_cons_succ, List.getElem_cons_zero, Act.put, List.setIfInBounds_toArray, List.set_cons_zero, List.set_cons_succ]
          refine wpAnyH_take (i := 3) (v := .pointer (some ⟨wr.heap.size, 1, none⟩)) rfl (by kernel_rfl) (by kernel_rfl) (by kernel_rfl) (fun _ _ _ h => h) (Or.inl ⟨by rfl, (fun W _ => by go_simp)⟩) HHd.out ?_
          simp only [List.getElem_toArray, List.getElem_cons_succ, List.getElem_cons_zero, Act.put, List.setIfInBounds_toArray, List.set_cons_zero, List.set_cons_succ]
          refine wpAnyH_take (i := 4) (v := .int .i64 q) rfl (by kernel_rfl) (by kernel_rfl) (by kernel_rfl) (fun _ _ _ h => h) (Or.inl ⟨by rfl, (fun W hW => by have q9 := (act_cells hW).2.1; go_simp)⟩) HHd.out ?_
          simp only [List.getElem_toArray, List.getElem_cons_succ, List.getElem_cons_zero, Act.put, List.setIfInBounds_toArray, List.set_cons_zero, List.set_cons_succ]
          refine wpAnyH_take (i := 5) (v := .int .i64 sec) rfl (by kernel_rfl) (by kernel_rfl) (by kernel_rfl) (fun _ _ _ h => h) (Or.inl ⟨by rfl, (fun W _ => by go_simp)⟩) HHd.out ?_
          simp only [List.getElem_toArray, List.getElem_cons_succ, List.getElem_cons_zero, Act.put, List.setIfInBounds_toArray, List.set_cons_zero, List.set_cons_succ]
          refine wpAnyH_take (i := 7) (v := .pointer (some ⟨y, 0, none⟩)) rfl (by kernel_rfl) (by kernel_rfl) (by kernel_rfl) (fun _ _ _ h => h) (Or.inl ⟨by rfl, (fun W _ => by go_simp)⟩) HHd.out ?_
          simp only [List.getElem_toArray, List.getElem_cons_succ, List.getElem_cons_zero, Act.put, List.setIfInBounds_toArray, List.set_cons_zero, List.set_cons_succ]
          refine wpAnyH_take (i := 8) (v := .pointer (some ⟨wr.heap.size, 0, none⟩)) rfl (by kernel_rfl) (by kernel_rfl) (by kernel_rfl) (fun _ _ _ h => h) (Or.inl ⟨by rfl, (fun W _ => by go_simp)⟩) HHd.out ?_
          simp only [List.getElem_toArray, List.getElem_cons_succ, List.getElem_cons_zero, Act.put, List.setIfInBounds_toArray, List.set_cons_zero, List.set_cons_succ]
          refine wpAnyH_take (i := 9) (v := .int .i64 sl) rfl (by kernel_rfl) (by kernel_rfl) (by kernel_rfl) (fun _ _ _ h => h) (Or.inl ⟨by rfl, (fun W hW => by have q9 := (act_cells hW).1; go_simp)⟩) HHd.out ?_
          simp only [List.getElem_toArray, List.getElem_cons_succ, List.getElem_cons_zero, Act.put, List.setIfInBounds_toArray, List.set_cons_zero, List.set_cons_succ]
          refine wpAnyH_take (i := 10) (v := .pointer (some ⟨wr.heap.size, 1, none⟩)) rfl (by kernel_rfl) (by kernel_rfl) (by kernel_rfl) (fun _ _ _ h => h) (Or.inl ⟨by rfl, (fun W _ => by go_simp)⟩) HHd.out ?_
          simp only [List.getElem_toArray, List.getElem_cons_succ, List.getElem_cons_zero, Act.put, List.setIfInBounds_toArray, List.set_cons_zero, List.set_cons_succ]
          refine wpAnyH_take (i := 11) (v := .int .i64 q) rfl (by kernel_rfl) (by kernel_rfl) (by kernel_rfl) (fun _ _ _ h => h) (Or.inl ⟨by rfl, (fun W hW => by have q9 := (act_cells hW).2.1; go_simp)⟩) HHd.out ?_
          simp only [List.getElem_toArray, List.getElem_cons_succ, List.getElem_cons_zero, Act.put, List.setIfInBounds_toArray, List.set_cons_zero, List.set_cons_succ]
          refine wpAnyH_take (i := 12) (v := .int .i64 sec) rfl (by kernel_rfl) (by kernel_rfl) (by kernel_rfl) (fun _ _ _ h => h) (Or.inl ⟨by rfl, (fun W _ => by go_simp)⟩) HHd.out ?_
          simp only [List.getElem_toArray, List.getElem_cons_succ, List.getElem_cons_zero, Act.put, List.setIfInBounds_toArray, List.set_cons_zero, List.set_cons_succ]
          refine wpAnyH_ready (rs := [6]) (by kernel_rfl) (by simp) ?_
          refine AllReadyH.cons rfl (fun K hK => ?_) AllReadyH.nil
          go_simp
          refine (HM1.out).mono ?_
          rintro e v1 ⟨rfl, b1⟩; have H31 := Lib.hid (H3d.out.kept b1); have HH1 := Lib.hid (HHd.out.kept b1); clear b1
          refine hK.out _ _ HH1.out (fun _ => ?_)
          clear hK K
          have HM2 := Lib.hid (rmay_any sl q sec v1 H31.out.b H31.out.r HG1.out.fr (by rw [HRO1.out]; have := HO1.out; omega) (by rw [HG1.out.wr]; exact HQO.out))
          rw [HFR.out] at HM2
          clear H3d HHd HM1
          refine wpAnyH_ready (rs := [13]) (by kernel_rfl) (by simp) ?_
          refine AllReadyH.cons rfl (fun K hK => ?_) AllReadyH.nil
          go_simp
          refine (HM2.out).mono ?_
          rintro e v2 ⟨rfl, b2⟩; have H32 := Lib.hid (H31.out.kept b2); have HH2 := Lib.hid (HH1.out.kept b2); clear b2
          refine hK.out _ _ HH2.out (fun _ => ?_)
          clear hK K
          clear HM2 HFR H31 HH1
          refine wpAnyH_take (i := 14) (v := .bool false) rfl (by kernel_rfl) (by kernel_rfl) (by kernel_rfl) (fun _ _ _ h => h) (Or.inl ⟨by rfl, (fun W _ => by go_simp)⟩) HH2.out ?_
          simp only [List.getElem_toArray, List.getElem_cons_succ, List.getElem_cons_zero, Act.put, List.setIfInBounds_toArray, List.set_cons_zero, List.set_cons_succ]
          refine wpAnyH_take (i := 15) (v := .bool false) rfl (by kernel_rfl) (by kernel_rfl) (by kernel_rfl) (fun _ _ _ h => h) (Or.inl ⟨by rfl, (fun W _ => by go_simp)⟩) HH2.out ?_
          simp only [List.getElem_toArray, List.getElem_cons_succ, List.getElem_cons_zero, Act.put, List.setIfInBounds_toArray, List.set_cons_zero, List.set_cons_succ]
          refine wpAnyH_take (i := 16) (v := .pointer (some ⟨x, 0, none⟩)) rfl (by kernel_rfl) (by kernel_rfl) (by kernel_rfl) (fun _ _ _ h => h) (Or.inl ⟨by rfl, (fun W _ => by go_simp)⟩) HH2.out ?_
          simp only [List.getElem_toArray, List.getElem_cons_succ, List.getElem_cons_zero, Act.put, List.setIfInBounds_toArray, List.set_cons_zero, List.set_cons_succ]
          refine wpAnyH_take (i := 17) (v := .pointer (some ⟨wr.heap.size, 0, none⟩)) rfl (by kernel_rfl) (by kernel_rfl) (by kernel_rfl) (fun _ _ _ h => h) (Or.inl ⟨by rfl, (fun W _ => by go_simp)⟩) HH2.out ?_
          simp only [List.getElem_toArray, List.getElem_cons_succ, List.getElem_cons_zero, Act.put, List.setIfInBounds_toArray, List.set_cons_zero, List.set_cons_succ]
          refine wpAnyH_take (i := 18) (v := .int .i64 sl) rfl (by kernel_rfl) (by kernel_rfl) (by kernel_rfl) (fun _ _ _ h => h) (Or.inl ⟨by rfl, (fun W hW => by have q9 := (act_cells hW).1; go_simp)⟩) HH2.out ?_
          simp only [List.getElem_toArray, List.getElem_cons_succ, List.getElem_cons_zero, Act.put, List.setIfInBounds_toArray, List.set_cons_zero, List.set_cons_succ]
          refine wpAnyH_take (i := 19) (v := .pointer (some ⟨wr.heap.size, 1, none⟩)) rfl (by kernel_rfl) (by kernel_rfl) (by kernel_rfl) (fun _ _ _ h => h) (Or.inl ⟨by rfl, (fun W _ => by go_simp)⟩) HH2.out ?_
          simp only [List.getElem_toArray, List.getElem_cons_succ, List.getElem_cons_zero, Act.put, List.setIfInBounds_toArray, List.set_cons_zero, List.set_cons_succ]
          refine wpAnyH_take (i := 20) (v := .int .i64 q) rfl (by kernel_rfl) (by kernel_rfl) (by kernel_rfl) (fun _ _ _ h => h) (Or.inl ⟨by rfl, (fun W hW => by have q9 := (act_cells hW).2.1; go_simp)⟩) HH2.out ?_
          simp only [List.getElem_toArray, List.getElem_cons_succ, List.getElem_cons_zero, Act.put, List.setIfInBounds_toArray, List.set_cons_zero, List.set_cons_succ]
          refine wpAnyH_take (i := 21) (v := .int .i64 sec) rfl (by kernel_rfl) (by kernel_rfl) (by kernel_rfl) (fun _ _ _ h => h) (Or.inl ⟨by rfl, (fun W _ => by go_simp)⟩) HH2.out ?_
          simp only [List.getElem_toArray, List.getElem_cons_succ, List.getElem_cons_zero, Act.put, List.setIfInBounds_toArray, List.set_cons_zero, List.set_cons_succ]
          refine wpAnyH_take (i := 22) (v := .pointer (some ⟨wr.heap.size, 3, none⟩)) rfl (by kernel_rfl) (by kernel_rfl) (by kernel_rfl) (fun _ _ _ h => h) (Or.inl ⟨by rfl, (fun W _ => by go_simp)⟩) HH2.out ?_
          simp only [List.getElem_toArray, List.getElem_cons_succ, List.getElem_cons_zero, Act.put, List.setIfInBounds_toArray, List.set_cons_zero, List.set_cons_succ]
          refine wpAnyH_take (i := 23) (v := .slice BA BL BC) rfl (by kernel_rfl) (by kernel_rfl) (by kernel_rfl) (fun _ _ _ h => h) (Or.inl ⟨by rfl, (fun W hW => by have q9 := (act_cells hW).2.2.2.1; go_simp)⟩) HH2.out ?_
          simp only [List.getElem_toArray, List.getElem_cons_succ, List.getElem_cons_zero, Act.put, List.setIfInBounds_toArray, List.set_cons_zero, List.set_cons_succ]
          refine wpAnyH_take (i := 27) (v := .pointer (some ⟨y, 0, none⟩)) rfl (by kernel_rfl) (by kernel_rfl) (by kernel_rfl) (fun _ _ _ h => h) (Or.inl ⟨by rfl, (fun W _ => by go_simp)⟩) HH2.out ?_
          simp only [List.getElem_toArray, List.getElem_cons_succ, List.getElem_cons_zero, Act.put, List.setIfInBounds_toArray, List.set_cons_zero, List.set_cons_succ]
          refine wpAnyH_take (i := 28) (v := .pointer (some ⟨wr.heap.size, 0, none⟩)) rfl (by kernel_rfl) (by kernel_rfl) (by kernel_rfl) (fun _ _ _ h => h) (Or.inl ⟨by rfl, (fun W _ => by go_simp)⟩) HH2.out ?_
          simp only [List.getElem_toArray, List.getElem_cons_succ, List.getElem_cons_zero, Act.put, List.setIfInBounds_toArray, List.set_cons_zero, List.set_cons_succ]
          refine wpAnyH_take (i := 29) (v := .int .i64 sl) rfl (by kernel_rfl) (by kernel_rfl) (by kernel_rfl) (fun _ _ _ h => h) (Or.inl ⟨by rfl, (fun W hW => by have q9 := (act_cells hW).1; go_simp)⟩) HH2.out ?_
          simp only [List.getElem_toArray, List.getElem_cons_succ, List.getElem_cons_zero, Act.put, List.setIfInBounds_toArray, List.set_cons_zero, List.set_cons_succ]
          refine wpAnyH_take (i := 30) (v := .pointer (some ⟨wr.heap.size, 1, none⟩)) rfl (by kernel_rfl) (by kernel_rfl) (by kernel_rfl) (fun _ _ _ h => h) (Or.inl ⟨by rfl, (fun W _ => by go_simp)⟩) HH2.out ?_
          simp only [List.getElem_toArray, List.getElem_cons_succ, List.getElem_cons_zero, Act.put, List.setIfInBounds_toArray, List.set_cons_zero, List.set_cons_succ]
          refine wpAnyH_take (i := 31) (v := .int .i64 q) rfl (by kernel_rfl) (by kernel_rfl) (by kernel_rfl) (fun _ _ _ h => h) (Or.inl ⟨by rfl, (fun W hW => by have q9 := (act_cells hW).2.1; go_simp)⟩) HH2.out ?_
          simp only [List.getElem_toArray, List.getElem_cons_succ, List.getElem_cons_zero, Act.put, List.setIfInBounds_toArray, List.set_cons_zero, List.set_cons_succ]
          refine wpAnyH_take (i := 32) (v := .int .i64 sec) rfl (by kernel_rfl) (by kernel_rfl) (by kernel_rfl) (fun _ _ _ h => h) (Or.inl ⟨by rfl, (fun W _ => by go_simp)⟩) HH2.out ?_
          simp only [List.getElem_toArray, List.getElem_cons_succ, List.getElem_cons_zero, Act.put, List.setIfInBounds_toArray, List.set_cons_zero, List.set_cons_succ]
          refine wpAnyH_take (i := 33) (v := .pointer (some ⟨wr.heap.size, 3, none⟩)) rfl (by kernel_rfl) (by kernel_rfl) (by kernel_rfl) (fun _ _ _ h => h) (Or.inl ⟨by rfl, (fun W _ => by go_simp)⟩) HH2.out ?_
          simp only [List.getElem_toArray, List.getElem_cons_succ, List.getElem_cons_zero, Act.put, List.setIfInBounds_toArray, List.set_cons_zero, List.set_cons_succ]
          refine wpAnyH_take (i := 34) (v := .slice BA BL BC) rfl (by kernel_rfl) (by kernel_rfl) (by kernel_rfl) (fun _ _ _ h => h) (Or.inl ⟨by rfl, (fun W hW => by have q9 := (act_cells hW).2.2.2.1; go_simp)⟩) HH2.out ?_
          simp only [List.getElem_toArray, List.getElem_cons_succ, List.getElem_cons_zero, Act.put, List.setIfInBounds_toArray, List.set_cons_zero, List.set_cons_succ]
          have k7 := row_below H32.out.low HBB.out
          obtain ⟨v8, w8, hrun8, o8, g8⟩ := runs_app v2 v2.heap.size 34 (.slice none 0 0) 0 [] (own_nil _ _) BA BL BC bs k7 (row_none k7) (by omega) (Nat.le_refl _)
          rw [Nat.zero_add, List.nil_append] at o8
          have b8 : Below v2.heap.size v2 w8 := below_own (Below.refl _ v2) (own_nil v2 v2.heap.size) g8 (Nat.le_refl _) (Nat.le_refl _)
          have HH8 := Lib.hid (HH2.out.kept b8)
          have H38 := Lib.hid (H32.out.kept b8)
          refine wpAnyH_ready (rs := [24]) (by kernel_rfl) (by simp) ?_
          refine AllReadyH.cons rfl (fun K hK => ?_) AllReadyH.nil
          refine step_run (by rfl) (.const (.slice none 0 0)) (.tmp 107) rfl 34 rfl (.slice none 0 0) (.slice BA BL BC) v8 rfl rfl hrun8 ?_
          refine hK.out _ _ HH8.out (fun _ => ?_)
          clear hK K hrun8
          simp only [List.getElem_toArray, List.getElem_cons_succ, List.getElem_cons_zero, Act.put, List.setIfInBounds_toArray, List.set_cons_zero, List.set_cons_succ]
          obtain ⟨A8, c8, rfl, hc8, r8, l8⟩ := o8.form
          have hc9 : Clear g m k A8 BL := .inr fun y hy e => by have := (l8 y hy).1; have := (HAT.out.lf _ e).2; have := H32.out.top; omega
          have HPt := Lib.hid (write_any sl q sec A8 BL c8 bs w8 H38.out.a (HAT.out.nf HAT.out.x) H38.out.f HG1.out.fs (by have := HO1.out; omega) (by rw [HG1.out.wl]; exact HPO.out) r8 hc9)
          have HEq := Lib.hid (al_write HG1.out HLK.out sl q sec bs).1
          have HG2 := Lib.hid (al_write HG1.out HLK.out sl q sec bs).2
          have HO2 := Lib.hid (show (writeW S P sl q sec bs).2.ops ≤ 2 * (j + 1) by have := (write_wears S P sl q sec bs).2; have := HO1.out; omega)
          obtain ⟨S2, hS2⟩ : ∃ S2, (writeW S P sl q sec bs).2 = S2 := ⟨_, rfl⟩
          obtain ⟨E2, hE2⟩ : ∃ E2, (writeW S P sl q sec bs).1 = E2 := ⟨_, rfl⟩
          obtain ⟨R2, hR2⟩ : ∃ R2, (writeW R Q sl q sec bs).2 = R2 := ⟨_, rfl⟩
          rw [hS2] at HPt HG2 HO2
          rw [hE2] at HPt HEq
          rw [hR2] at HG2
          have HR2 := Lib.hid hR2
          clear o8 g8 k7 r8 b8 hc9 l8 hS2 hE2 hR2 HH2 H32
          refine wpAnyH_ready (rs := [25]) (by kernel_rfl) (by simp) ?_
          refine AllReadyH.cons rfl (fun K hK => ?_) AllReadyH.nil
          go_simp
          refine (HPt.out).mono ?_
          rintro e w9 ⟨rfl, t9⟩; have HH9 := Lib.hid (HH8.out.only t9.2 HNF.out); have H39 := Lib.hid (H38.out.of_f HAT.out t9); clear t9
          refine hK.out _ _ HH9.out (fun _ => ?_)
          clear hK K
          clear HPt HH8 H38
          refine wpAnyH_ready (rs := [26]) (by kernel_rfl) (by simp) ?_
          refine AllReadyH.cons rfl (fun K hK => ?_) AllReadyH.nil
          go_simp
          refine (lnum_any _ _).mono ?_
          rintro e w10 ⟨rfl, rfl⟩
          refine hK.out _ _ HH9.out (fun _ => ?_)
          clear hK K
          have HPr := Lib.hid (rwrite_any sl q sec BA BL BC bs w9 H39.out.b (HAT.out.nr HAT.out.y) H39.out.r HG1.out.fr (by rw [HRO1.out]; have := HO1.out; omega) (by rw [HG1.out.wr]; exact HQO.out) (row_below H39.out.low HBB.out) (by omega) (HCR.out _ _ _ HBB.out))
          rw [HEq.out, HR2.out] at HPr
          clear HR2 HEq
          refine wpAnyH_ready (rs := [35]) (by kernel_rfl) (by simp) ?_
          refine AllReadyH.cons rfl (fun K hK => ?_) AllReadyH.nil
          go_simp
          refine (HPr.out).mono ?_
          rintro e w11 ⟨rfl, t11⟩; have HH11 := Lib.hid (HH9.out.only t11.2 HNR.out); have H311 := Lib.hid (H39.out.of_r HAT.out t11); clear t11
          refine hK.out _ _ HH11.out (fun _ => ?_)
          clear hK K
          clear HPr HH9 H39 HG1 HO1 HRO1
          obtain ⟨ai, hai⟩ : ∃ ai, atI sl q sec = ai := ⟨_, rfl⟩
          have HAI := Lib.hid hai
          clear hai
          refine wpAnyH_take (i := 36) (v := .bool false) rfl (by kernel_rfl) (by kernel_rfl) (by kernel_rfl) (fun _ _ _ h => h) (Or.inl ⟨by rfl, (fun W _ => by go_simp)⟩) HH11.out ?_
          simp only [List.getElem_toArray, List.getElem_cons_succ, List.getElem_cons_zero, Act.put, List.setIfInBounds_toArray, List.set_cons_zero, List.set_cons_succ]
          refine wpAnyH_take (i := 37) (v := .bool false) rfl (by kernel_rfl) (by kernel_rfl) (by kernel_rfl) (fun _ _ _ h => h) (Or.inl ⟨by rfl, (fun W _ => by go_simp)⟩) HH11.out ?_
          simp only [List.getElem_toArray, List.getElem_cons_succ, List.getElem_cons_zero, Act.put, List.setIfInBounds_toArray, List.set_cons_zero, List.set_cons_succ]
          refine wpAnyH_take (i := 38) (v := .bool false) rfl (by kernel_rfl) (by kernel_rfl) (by kernel_rfl) (fun _ _ _ h => h) (Or.inl ⟨by rfl, (fun W _ => by go_simp)⟩) HH11.out ?_
          simp only [List.getElem_toArray, List.getElem_cons_succ, List.getElem_cons_zero, Act.put, List.setIfInBounds_toArray, List.set_cons_zero, List.set_cons_succ]
          refine wpAnyH_take (i := 39) (v := .pointer (some ⟨wr.heap.size, 0, none⟩)) rfl (by kernel_rfl) (by kernel_rfl) (by kernel_rfl) (fun _ _ _ h => h) (Or.inl ⟨by rfl, (fun W _ => by go_simp)⟩) HH11.out ?_
          simp only [List.getElem_toArray, List.getElem_cons_succ, List.getElem_cons_zero, Act.put, List.setIfInBounds_toArray, List.set_cons_zero, List.set_cons_succ]
          refine wpAnyH_take (i := 40) (v := .int .i64 sl) rfl (by kernel_rfl) (by kernel_rfl) (by kernel_rfl) (fun _ _ _ h => h) (Or.inl ⟨by rfl, (fun W hW => by have q9 := (act_cells hW).1; go_simp)⟩) HH11.out ?_
          simp only [List.getElem_toArray, List.getElem_cons_succ, List.getElem_cons_zero, Act.put, List.setIfInBounds_toArray, List.set_cons_zero, List.set_cons_succ]
          refine wpAnyH_take (i := 41) (v := .pointer (some ⟨wr.heap.size, 1, none⟩)) rfl (by kernel_rfl) (by kernel_rfl) (by kernel_rfl) (fun _ _ _ h => h) (Or.inl ⟨by rfl, (fun W _ => by go_simp)⟩) HH11.out ?_
          simp only [List.getElem_toArray, List.getElem_cons_succ, List.getElem_cons_zero, Act.put, List.setIfInBounds_toArray, List.set_cons_zero, List.set_cons_succ]
          refine wpAnyH_take (i := 42) (v := .int .i64 q) rfl (by kernel_rfl) (by kernel_rfl) (by kernel_rfl) (fun _ _ _ h => h) (Or.inl ⟨by rfl, (fun W hW => by have q9 := (act_cells hW).2.1; go_simp)⟩) HH11.out ?_
          simp only [List.getElem_toArray, List.getElem_cons_succ, List.getElem_cons_zero, Act.put, List.setIfInBounds_toArray, List.set_cons_zero, List.set_cons_succ]
          refine wpAnyH_take (i := 43) (v := .int .i64 sec) rfl (by kernel_rfl) (by kernel_rfl) (by kernel_rfl) (fun _ _ _ h => h) (Or.inl ⟨by rfl, (fun W _ => by go_simp)⟩) HH11.out ?_
          simp only [List.getElem_toArray, List.getElem_cons_succ, List.getElem_cons_zero, Act.put, List.setIfInBounds_toArray, List.set_cons_zero, List.set_cons_succ]
          refine wpAnyH_take (i := 45) (v := .pointer (some ⟨wr.heap.size, 0, none⟩)) rfl (by kernel_rfl) (by kernel_rfl) (by kernel_rfl) (fun _ _ _ h => h) (Or.inl ⟨by rfl, (fun W _ => by go_simp)⟩) HH11.out ?_
          simp only [List.getElem_toArray, List.getElem_cons_succ, List.getElem_cons_zero, Act.put, List.setIfInBounds_toArray, List.set_cons_zero, List.set_cons_succ]
          refine wpAnyH_take (i := 46) (v := .int .i64 sl) rfl (by kernel_rfl) (by kernel_rfl) (by kernel_rfl) (fun _ _ _ h => h) (Or.inl ⟨by rfl, (fun W hW => by have q9 := (act_cells hW).1; go_simp)⟩) HH11.out ?_
          simp only [List.getElem_toArray, List.getElem_cons_succ, List.getElem_cons_zero, Act.put, List.setIfInBounds_toArray, List.set_cons_zero, List.set_cons_succ]
          refine wpAnyH_take (i := 47) (v := .pointer (some ⟨wr.heap.size, 1, none⟩)) rfl (by kernel_rfl) (by kernel_rfl) (by kernel_rfl) (fun _ _ _ h => h) (Or.inl ⟨by rfl, (fun W _ => by go_simp)⟩) HH11.out ?_
          simp only [List.getElem_toArray, List.getElem_cons_succ, List.getElem_cons_zero, Act.put, List.setIfInBounds_toArray, List.set_cons_zero, List.set_cons_succ]
          refine wpAnyH_take (i := 48) (v := .int .i64 q) rfl (by kernel_rfl) (by kernel_rfl) (by kernel_rfl) (fun _ _ _ h => h) (Or.inl ⟨by rfl, (fun W hW => by have q9 := (act_cells hW).2.1; go_simp)⟩) HH11.out ?_
          simp only [List.getElem_toArray, List.getElem_cons_succ, List.getElem_cons_zero, Act.put, List.setIfInBounds_toArray, List.set_cons_zero, List.set_cons_succ]
          refine wpAnyH_take (i := 49) (v := .int .i64 sec) rfl (by kernel_rfl) (by kernel_rfl) (by kernel_rfl) (fun _ _ _ h => h) (Or.inl ⟨by rfl, (fun W _ => by go_simp)⟩) HH11.out ?_
          simp only [List.getElem_toArray, List.getElem_cons_succ, List.getElem_cons_zero, Act.put, List.setIfInBounds_toArray, List.set_cons_zero, List.set_cons_succ]
          refine wpAnyH_ready (rs := [44]) (by kernel_rfl) (by simp) ?_
          refine AllReadyH.cons rfl (fun K hK => ?_) AllReadyH.nil
          go_simp
          refine (from_any sl q sec _).mono ?_
          rintro e w12 ⟨rfl, rfl⟩; rw [HAI.out]
          refine hK.out _ _ HH11.out (fun _ => ?_)
          clear hK K
          refine wpAnyH_ready (rs := [50]) (by kernel_rfl) (by simp) ?_
          refine AllReadyH.cons rfl (fun K hK => ?_) AllReadyH.nil
          go_simp
          refine (rfrom_any sl q sec _).mono ?_
          rintro e w12 ⟨rfl, rfl⟩; rw [HAI.out]
          refine hK.out _ _ HH11.out (fun _ => ?_)
          clear hK K
          refine wpAnyH_take (i := 51) (v := .bool false) rfl (by kernel_rfl) (by kernel_rfl) (by kernel_rfl) (fun _ _ _ h => h) (Or.inl ⟨by rfl, (fun W _ => by go_simp)⟩) HH11.out ?_
          simp only [List.getElem_toArray, List.getElem_cons_succ, List.getElem_cons_zero, Act.put, List.setIfInBounds_toArray, List.set_cons_zero, List.set_cons_succ]
          refine wpAnyH_take (i := 52) (v := .bool false) rfl (by kernel_rfl) (by kernel_rfl) (by kernel_rfl) (fun _ _ _ h => h) (Or.inl ⟨by rfl, (fun W _ => by go_simp)⟩) HH11.out ?_
          simp only [List.getElem_toArray, List.getElem_cons_succ, List.getElem_cons_zero, Act.put, List.setIfInBounds_toArray, List.set_cons_zero, List.set_cons_succ]
          refine wpAnyH_done (by kernel_rfl) ?_ _
          clear HAI
          have HG3 := Lib.hid (al_power HG2.out)
          have HO3 := Lib.hid (show (power S2).ops ≤ 2 * (j + 1) from HO2.out)
          have HPw := Lib.hid (power_any w11 H311.out.f)
          obtain ⟨S3, hS3⟩ : ∃ S3, power S2 = S3 := ⟨_, rfl⟩
          obtain ⟨R3, hR3⟩ : ∃ R3, power R2 = R3 := ⟨_, rfl⟩
          have HOK3 := Lib.hid (show S3.Ok by rw [← hS3]; exact power_ok H311.out.f.ok)
          rw [hS3] at HPw HG3 HO3
          rw [hR3] at HG3
          have HR3 := Lib.hid hR3
          clear hS3 hR3 HG2 HO2
          obtain ⟨im, him⟩ : ∃ im, imgL S3 P sl sec size = im := ⟨_, rfl⟩
          have HIM := Lib.hid him
          have HIR := Lib.hid ((al_img HG3.out HLK.out sl sec size).trans him)
          have HIL := Lib.hid (show im.length ≤ 1920 by rw [← him]; exact imgL_len HOK3.out (by rw [HG3.out.wl]; exact HPO.out) sl sec size)
          clear him
          go_wp2_with (first
            | (go_at_call 18; (with_reducible refine HPw.out.mono ?_); rintro e w13 ⟨rfl, t13⟩; have HH13 := Lib.hid (HH11.out.only t13.2 HNF.out); have H313 := Lib.hid (H311.out.of_f HAT.out t13); have HPx := Lib.hid (rpower_any w13 H313.out.r); rw [HR3.out] at HPx; clear t13 HPw HH11 H311)
            | (go_at_call 19; (with_reducible refine HPx.out.mono ?_); rintro e w14 ⟨rfl, t14⟩; have HH14 := Lib.hid (HH13.out.only t14.2 HNR.out); have H314 := Lib.hid (H313.out.of_r HAT.out t14); obtain ⟨e0, e1, e2, e3, e4, e5⟩ := act_cells HH14.out; have HRd := Lib.hid (rimage_any sl sec size w14 H314.out.b H314.out.r (by rw [HG3.out.wr]; exact HQO.out) HSZ.out); rw [HIR.out] at HRd; clear t14 HPx HH13 H313)
            | (go_at_call 20; (with_reducible refine HRd.out.mono ?_); rintro e w15 ⟨v15, rfl, o15, b15⟩; clear HRd e0 e1 e2 e3 e4 e5; have HH15 := Lib.hid (HH14.out.kept b15); have H315 := Lib.hid (H314.out.kept b15); obtain ⟨A15, c15, rfl, hc15, r15, _⟩ := o15.form; have HR15 := Lib.hid r15; have HC15 := Lib.hid hc15; clear o15 r15 hc15 b15 HH14 H314))
          have H3f := Lib.hid (H315.out.kept ((Below.refl _ w15).drew))
          have HSf := Lib.hid (show Has w15.drew wr.heap.size 36 (actCells sl q nn BA BL BC MA ML MC false) ∧ Below w15.drew.heap.size w15.drew w15.drew from ⟨HH15.out, Below.refl _ _⟩)
          have HRf := Lib.hid (show Row w15.drew A15 im.length im from row_below (Below.refl _ w15).drew HR15.out)
          have HVy := Lib.hid (fun W (hW : Below w15.drew.heap.size w15.drew W) => conv_row (c := c15) (row_below hW HRf.out))
          have HIa := Lib.hid (image_any sl sec size w15.drew H3f.out.a H3f.out.f (by rw [HG3.out.wl]; exact HPO.out) HSZ.out)
          rw [HIM.out] at HIa
          clear H315 HH15 HR15
          refine wp_region_held_drew (S := fun W => Has W wr.heap.size 36 (actCells sl q nn BA BL BC MA ML MC false) ∧ Below w15.drew.heap.size w15.drew W) (by kernel_rfl) HSf.out ?_
          intro _
          refine wpAnyH_take (i := 0) (v := .pointer (some ⟨x, 0, none⟩)) rfl (by kernel_rfl) (by kernel_rfl) (by kernel_rfl) (fun _ _ _ h => h) (Or.inl ⟨by rfl, (fun W _ => by go_simp)⟩) HSf.out ?_
          simp only [List.getElem_toArray, List.getElem_cons_succ, List.getElem_cons_zero, Act.put, List.setIfInBounds_toArray, List.set_cons_zero, List.set_cons_succ]
          refine wpAnyH_take (i := 1) (v := .pointer (some ⟨wr.heap.size, 0, none⟩)) rfl (by kernel_rfl) (by kernel_rfl) (by kernel_rfl) (fun _ _ _ h => h) (Or.inl ⟨by rfl, (fun W _ => by go_simp)⟩) HSf.out ?_
          simp only [List.getElem_toArray, List.getElem_cons_succ, List.getElem_cons_zero, Act.put, List.setIfInBounds_toArray, List.set_cons_zero, List.set_cons_succ]
          refine wpAnyH_take (i := 2) (v := .int .i64 sl) rfl (by kernel_rfl) (by kernel_rfl) (by kernel_rfl) (fun _ _ _ h => h) (Or.inl ⟨by rfl, (fun W hW => by have q9 := (act_cells hW.1).1; go_simp)⟩) HSf.out ?_
          simp only [List.getElem_toArray, List.getElem_cons_succ, List.getElem_cons_zero, Act.put, List.setIfInBounds_toArray, List.set_cons_zero, List.set_cons_succ]
          refine wpAnyH_take (i := 3) (v := .int .i64 sec) rfl (by kernel_rfl) (by kernel_rfl) (by kernel_rfl) (fun _ _ _ h => h) (Or.inl ⟨by rfl, (fun W _ => by go_simp)⟩) HSf.out ?_
          simp only [List.getElem_toArray, List.getElem_cons_succ, List.getElem_cons_zero, Act.put, List.setIfInBounds_toArray, List.set_cons_zero, List.set_cons_succ]
          refine wpAnyH_take (i := 4) (v := .int .i64 size) rfl (by kernel_rfl) (by kernel_rfl) (by kernel_rfl) (fun _ _ _ h => h) (Or.inl ⟨by rfl, (fun W _ => by go_simp)⟩) HSf.out ?_
          simp only [List.getElem_toArray, List.getElem_cons_succ, List.getElem_cons_zero, Act.put, List.setIfInBounds_toArray, List.set_cons_zero, List.set_cons_succ]
          refine wpAnyH_take (i := 7) (v := .slice A15 im.length c15) rfl (by kernel_rfl) (by kernel_rfl) (by kernel_rfl) (fun _ _ _ h => h) (Or.inl ⟨by rfl, (fun W _ => by go_simp)⟩) HSf.out ?_
          simp only [List.getElem_toArray, List.getElem_cons_succ, List.getElem_cons_zero, Act.put, List.setIfInBounds_toArray, List.set_cons_zero, List.set_cons_succ]
          refine wpAnyH_take (i := 8) (v := .string (strOfNums im)) rfl (by kernel_rfl) (by kernel_rfl) (by kernel_rfl) (fun _ _ _ h => h) (Or.inl ⟨by rfl, (fun W hW => by have q9 := HVy.out W hW.2; go_simp)⟩) HSf.out ?_
          simp only [List.getElem_toArray, List.getElem_cons_succ, List.getElem_cons_zero, Act.put, List.setIfInBounds_toArray, List.set_cons_zero, List.set_cons_succ]
          refine wpAnyH_ready (rs := [5]) (by kernel_rfl) (by simp) ?_
          refine AllReadyH.cons rfl (fun K hK => ?_) AllReadyH.nil
          go_simp
          refine (HIa.out).mono ?_
          rintro e w16 ⟨v16, rfl, o16, b16⟩; have HS16 := Lib.hid (And.intro (HSf.out.1.kept b16) b16); have H316 := Lib.hid (H3f.out.kept b16); have HB16 := Lib.hid b16; obtain ⟨A16, c16, rfl, _, r16, _⟩ := o16.form; have HV16 := Lib.hid (fun W (hW : Below w16.heap.size w16 W) => conv_row (c := c16) (row_below hW r16)); have HT16 := Lib.hid (And.intro HS16.out.1 (Below.refl w16.heap.size w16)); clear b16 o16
          refine hK.out _ _ HS16.out (fun _ => ?_)
          clear hK K
          refine wpAnyH_strong (S' := fun W => Has W wr.heap.size 36 (actCells sl q nn BA BL BC MA ML MC false) ∧ Below w16.heap.size w16 W) (fun W h => ⟨h.1, HB16.out.trans (h.2.mono HB16.out.size)⟩) _ _ _ _ ?_
          have HDg := Lib.hid (sdigest_any sl sec size w16 H316.out.a H316.out.f (by rw [HG3.out.wl]; exact HPO.out) HSZ.out (HT.out.kept H316.out.low))
          rw [HIM.out] at HDg
          obtain ⟨dg, hdg⟩ : ∃ dg, Sha.shaI im = dg := ⟨_, rfl⟩
          have HDL := Lib.hid (show dg.length = 32 by rw [← hdg]; rfl)
          have HDE := Lib.hid hdg
          rw [hdg] at HDg
          clear HIa H3f HSf hdg
          refine wpAnyH_take (i := 6) (v := .string (strOfNums im)) rfl (by kernel_rfl) (by kernel_rfl) (by kernel_rfl) (fun _ _ _ h => h) (Or.inl ⟨by rfl, (fun W hW => by have q9 := HV16.out W hW.2; go_simp)⟩) HT16.out ?_
          simp only [List.getElem_toArray, List.getElem_cons_succ, List.getElem_cons_zero, Act.put, List.setIfInBounds_toArray, List.set_cons_zero, List.set_cons_succ]
          refine wpAnyH_take (i := 9) (v := .bool false) rfl (by kernel_rfl) (by kernel_rfl) (by kernel_rfl) (fun _ _ _ h => h) (Or.inl ⟨by rfl, (fun W _ => by go_simp)⟩) HT16.out ?_
          simp only [List.getElem_toArray, List.getElem_cons_succ, List.getElem_cons_zero, Act.put, List.setIfInBounds_toArray, List.set_cons_zero, List.set_cons_succ]
          refine wpAnyH_take (i := 10) (v := .bool false) rfl (by kernel_rfl) (by kernel_rfl) (by kernel_rfl) (fun _ _ _ h => h) (Or.inl ⟨by rfl, (fun W _ => by go_simp)⟩) HT16.out ?_
          simp only [List.getElem_toArray, List.getElem_cons_succ, List.getElem_cons_zero, Act.put, List.setIfInBounds_toArray, List.set_cons_zero, List.set_cons_succ]
          refine wpAnyH_take (i := 11) (v := .pointer (some ⟨x, 0, none⟩)) rfl (by kernel_rfl) (by kernel_rfl) (by kernel_rfl) (fun _ _ _ h => h) (Or.inl ⟨by rfl, (fun W _ => by go_simp)⟩) HT16.out ?_
          simp only [List.getElem_toArray, List.getElem_cons_succ, List.getElem_cons_zero, Act.put, List.setIfInBounds_toArray, List.set_cons_zero, List.set_cons_succ]
          refine wpAnyH_take (i := 12) (v := .pointer (some ⟨wr.heap.size, 0, none⟩)) rfl (by kernel_rfl) (by kernel_rfl) (by kernel_rfl) (fun _ _ _ h => h) (Or.inl ⟨by rfl, (fun W _ => by go_simp)⟩) HT16.out ?_
          simp only [List.getElem_toArray, List.getElem_cons_succ, List.getElem_cons_zero, Act.put, List.setIfInBounds_toArray, List.set_cons_zero, List.set_cons_succ]
          refine wpAnyH_take (i := 13) (v := .int .i64 sl) rfl (by kernel_rfl) (by kernel_rfl) (by kernel_rfl) (fun _ _ _ h => h) (Or.inl ⟨by rfl, (fun W hW => by have q9 := (act_cells hW.1).1; go_simp)⟩) HT16.out ?_
          simp only [List.getElem_toArray, List.getElem_cons_succ, List.getElem_cons_zero, Act.put, List.setIfInBounds_toArray, List.set_cons_zero, List.set_cons_succ]
          refine wpAnyH_take (i := 14) (v := .int .i64 sec) rfl (by kernel_rfl) (by kernel_rfl) (by kernel_rfl) (fun _ _ _ h => h) (Or.inl ⟨by rfl, (fun W _ => by go_simp)⟩) HT16.out ?_
          simp only [List.getElem_toArray, List.getElem_cons_succ, List.getElem_cons_zero, Act.put, List.setIfInBounds_toArray, List.set_cons_zero, List.set_cons_succ]
          refine wpAnyH_take (i := 15) (v := .int .i64 size) rfl (by kernel_rfl) (by kernel_rfl) (by kernel_rfl) (fun _ _ _ h => h) (Or.inl ⟨by rfl, (fun W _ => by go_simp)⟩) HT16.out ?_
          simp only [List.getElem_toArray, List.getElem_cons_succ, List.getElem_cons_zero, Act.put, List.setIfInBounds_toArray, List.set_cons_zero, List.set_cons_succ]
          refine wpAnyH_take (i := 17) (v := .slice A15 im.length c15) rfl (by kernel_rfl) (by kernel_rfl) (by kernel_rfl) (fun _ _ _ h => h) (Or.inl ⟨by rfl, (fun W _ => by go_simp)⟩) HT16.out ?_
          simp only [List.getElem_toArray, List.getElem_cons_succ, List.getElem_cons_zero, Act.put, List.setIfInBounds_toArray, List.set_cons_zero, List.set_cons_succ]
          refine wpAnyH_ready (rs := [16]) (by kernel_rfl) (by simp) ?_
          refine AllReadyH.cons rfl (fun K hK => ?_) AllReadyH.nil
          go_simp
          refine (HDg.out).mono ?_
          rintro e w17 ⟨rfl, b17⟩; have HS17 := Lib.hid (And.intro (HT16.out.1.kept b17) b17); have H317 := Lib.hid (H316.out.kept b17); have HB17 := Lib.hid b17; have HRs := Lib.hid (Sha.rsha_any A15 im.length c15 im w17 (row_sha (row_below (HB16.out.trans (b17.mono HB16.out.size)) HRf.out)) HC15.out (by have := HIL.out; omega)); rw [HDE.out] at HRs; clear b17
          refine hK.out _ _ HS17.out (fun _ => ?_)
          clear hK K
          clear HDg H316
          refine wpAnyH_ready (rs := [18]) (by kernel_rfl) (by simp) ?_
          refine AllReadyH.cons rfl (fun K hK => ?_) AllReadyH.nil
          go_simp
          refine (HRs.out).mono ?_
          rintro e w18 ⟨rfl, b18⟩; have HS18 := Lib.hid (And.intro (HS17.out.1.kept b18) (HB17.out.trans (b18.mono HB17.out.size))); have H318 := Lib.hid (H317.out.kept b18); clear b18
          refine hK.out _ _ HS18.out (fun _ => ?_)
          clear hK K
          clear HRs H317
          refine wpAnyH_take (i := 19) (v := .bool false) rfl (by kernel_rfl) (by kernel_rfl) (by kernel_rfl) (fun _ _ _ h => h) (yields_neq32 (by rfl) (.tmp 163) (.tmp 165) rfl dg HDL.out rfl rfl) HS18.out ?_
          simp only [List.getElem_toArray, List.getElem_cons_succ, List.getElem_cons_zero, Act.put, List.setIfInBounds_toArray, List.set_cons_zero, List.set_cons_succ]
          refine wpAnyH_take (i := 20) (v := .bool false) rfl (by kernel_rfl) (by kernel_rfl) (by kernel_rfl) (fun _ _ _ h => h) (Or.inl ⟨by rfl, (fun W _ => by go_simp)⟩) HS18.out ?_
          simp only [List.getElem_toArray, List.getElem_cons_succ, List.getElem_cons_zero, Act.put, List.setIfInBounds_toArray, List.set_cons_zero, List.set_cons_succ]
          refine wpAnyH_done (by kernel_rfl) ?_ _
          go_wp2
          go_roundw
          case rel => exact ⟨j + 1, _, _, by simp, by omega, HO3.out, by rw [HD.out]; exact HG3.out, H318.out⟩
          case measure => simp only [intOf]; omega
      · as_aux_lemma =>
          have hbA : Below wr.heap.size wr (wr.alloc (.cells #[.int .i64 sl, .int .i64 q, .int .i64 nn, .slice BA BL BC, .slice MA ML MC, .bool true] 36)) := (Below.refl _ wr).alloc (Nat.le_refl _) _
          have H3 := Lib.hid (H3x.out.kept hbA)
          have HHa := Lib.hid (show Has (wr.alloc (.cells #[.int .i64 sl, .int .i64 q, .int .i64 nn, .slice BA BL BC, .slice MA ML MC, .bool true] 36)) wr.heap.size 36 (actCells sl q nn BA BL BC MA ML MC true) from has_new wr 36 _)
          clear hbA
          by_cases hB : 700 < BL
          · have iB : (700 : Int) < (BL : Int) := by omega
            go_wp2
            go_ret
            exact ⟨rfl, H3.out.low⟩
          have iB : ¬ (700 : Int) < (BL : Int) := by omega
          by_cases hM : 50 < ML
          · have iM : (50 : Int) < (ML : Int) := by omega
            go_wp2
            go_ret
            exact ⟨rfl, H3.out.low⟩
          have iM : ¬ (50 : Int) < (ML : Int) := by omega
          obtain ⟨S1, hS1⟩ : ∃ S1, cutAt S (max nn 0).toNat (ms.take S.mem.length) = S1 := ⟨_, rfl⟩
          obtain ⟨R1, hR1⟩ : ∃ R1, cutAt R (min (max nn 0) 1073741824).toNat ms = R1 := ⟨_, rfl⟩
          have HG1 := Lib.hid (show Alike n (D + 2) S1 R1 by rw [← hS1, ← hR1]; exact al_cut HG.out nn ms (by have := HD.out; omega))
          have HO1 := Lib.hid (show S1.ops ≤ 2 * j by rw [← hS1]; exact hS)
          have HRO1 := Lib.hid (show R1.ops = S1.ops from HG1.out.sim.ops.symm)
          have HC1 := Lib.hid (cut_any nn MA ML MC ms (wr.alloc (.cells #[.int .i64 sl, .int .i64 q, .int .i64 nn, .slice BA BL BC, .slice MA ML MC, .bool true] 36)) HA.out.i2 H3.out.f (row_below H3.out.low HA.out.rm) HA.out.lm (by omega) H3.out.top)
          rw [hS1] at HC1
          have HR1 := Lib.hid hR1
          clear hS1 hR1 HG hS HRO
          go_wp2_with (first
            | (go_at_call 9; (with_reducible refine HC1.out.mono ?_); rintro e w5 ⟨rfl, t5⟩; clear HC1; have HH5 := Lib.hid (HHa.out.only t5.2 HNF.out); have H35 := Lib.hid (H3.out.of_f HAT.out t5); obtain ⟨e0, e1, e2, e3, e4, e5⟩ := act_cells HH5.out; have HC2 := Lib.hid (rcutAt_any nn MA ML MC ms w5 H35.out.r (row_below H35.out.low HA.out.rm) (HCR.out _ _ _ HA.out.rm) (by omega) H35.out.top); clear t5 H3 HHa)
            | (go_at_call 10; (with_reducible refine HC2.out.mono ?_); rintro e w6 ⟨rfl, t6⟩; clear HC2 e0 e1 e2 e3 e4 e5; rw [HR1.out] at t6; have H3e := Lib.hid (H35.out.of_r HAT.out t6); have HHe := Lib.hid (HH5.out.only t6.2 HNR.out); clear t6 H35 HH5))
          clear HR1
          have H3d := Lib.hid (H3e.out.kept ((Below.refl _ w6).drew))
          have HHd := Lib.hid (show Has w6.drew wr.heap.size 36 (actCells sl q nn BA BL BC MA ML MC true) from HHe.out)
          clear H3e HHe
          obtain ⟨fr, hfr⟩ : ∃ fr, freeS S1 P (atI sl q sec) = fr := ⟨_, rfl⟩
          have HM1 := Lib.hid (smay_any sl q sec w6.drew H3d.out.a H3d.out.f HG1.out.fs (by have := HO1.out; omega) (by rw [HG1.out.wl]; exact HPO.out))
          rw [hfr] at HM1
          have HFR := Lib.hid ((al_free HG1.out HLK.out (atI sl q sec)).trans hfr)
          clear hfr
          refine wp_region_held_drew (S := fun W => Has W wr.heap.size 36 (actCells sl q nn BA BL BC MA ML MC true)) (by kernel_rfl) HHd.out ?_
          intro _
          refine wpAnyH_take (i := 0) (v := .pointer (some ⟨x, 0, none⟩)) rfl (by kernel_rfl) (by kernel_rfl) (by kernel_rfl) (fun _ _ _ h => h) (Or.inl ⟨by rfl, (fun W _ => by go_simp)⟩) HHd.out ?_
          simp only [List.getElem_toArray, List.getElem_cons_succ, List.getElem_cons_zero, Act.put, List.setIfInBounds_toArray, List.set_cons_zero, List.set_cons_succ]
          refine wpAnyH_take (i := 1) (v := .pointer (some ⟨wr.heap.size, 0, none⟩)) rfl (by kernel_rfl) (by kernel_rfl) (by kernel_rfl) (fun _ _ _ h => h) (Or.inl ⟨by rfl, (fun W _ => by go_simp)⟩) HHd.out ?_
          simp only [List.getElem_toArray, List.getElem_cons_succ, List.getElem_cons_zero, Act.put, List.setIfInBounds_toArray, List.set_cons_zero, List.set_cons_succ]
          refine wpAnyH_take (i := 2) (v := .int .i64 sl) rfl (by kernel_rfl) (by kernel_rfl) (by kernel_rfl) (fun _ _ _ h => h) (Or.inl ⟨by rfl, (fun W hW => by have q9 := (act_cells hW).1; go_simp)⟩) HHd.out ?_
          simp only [List.getElem_toArray, List.getElem_cons_succ, List.getElem_cons_zero, Act.put, List.setIfInBounds_toArray, List.set_cons_zero, List.set_cons_succ]
          refine wpAnyH_take (i := 3) (v := .pointer (some ⟨wr.heap.size, 1, none⟩)) rfl (by kernel_rfl) (by kernel_rfl) (by kernel_rfl) (fun _ _ _ h => h) (Or.inl ⟨by rfl, (fun W _ => by go_simp)⟩) HHd.out ?_
          simp only [List.getElem_toArray, List.getElem_cons_succ, List.getElem_cons_zero, Act.put, List.setIfInBounds_toArray, List.set_cons_zero, List.set_cons_succ]
          refine wpAnyH_take (i := 4) (v := .int .i64 q) rfl (by kernel_rfl) (by kernel_rfl) (by kernel_rfl) (fun _ _ _ h => h) (Or.inl ⟨by rfl, (fun W hW => by have q9 := (act_cells hW).2.1; go_simp)⟩) HHd.out ?_
          simp only [List.getElem_toArray, List.getElem_cons_succ, List.getElem_cons_zero, Act.put, List.setIfInBounds_toArray, List.set_cons_zero, List.set_cons_succ]
          refine wpAnyH_take (i := 5) (v := .int .i64 sec) rfl (by kernel_rfl) (by kernel_rfl) (by kernel_rfl) (fun _ _ _ h => h) (Or.inl ⟨by rfl, (fun W _ => by go_simp)⟩) HHd.out ?_
          simp only [List.getElem_toArray, List.getElem_cons_succ, List.getElem_cons_zero, Act.put, List.setIfInBounds_toArray, List.set_cons_zero, List.set_cons_succ]
          refine wpAnyH_take (i := 7) (v := .pointer (some ⟨y, 0, none⟩)) rfl (by kernel_rfl) (by kernel_rfl) (by kernel_rfl) (fun _ _ _ h => h) (Or.inl ⟨by rfl, (fun W _ => by go_simp)⟩) HHd.out ?_
          simp only [List.getElem_toArray, List.getElem_cons_succ, List.getElem_cons_zero, Act.put, List.setIfInBounds_toArray, List.set_cons_zero, List.set_cons_succ]
          refine wpAnyH_take (i := 8) (v := .pointer (some ⟨wr.heap.size, 0, none⟩)) rfl (by kernel_rfl) (by kernel_rfl) (by kernel_rfl) (fun _ _ _ h => h) (Or.inl ⟨by rfl, (fun W _ => by go_simp)⟩) HHd.out ?_
          simp only [List.getElem_toArray, List.getElem_cons_succ, List.getElem_cons_zero, Act.put, List.setIfInBounds_toArray, List.set_cons_zero, List.set_cons_succ]
          refine wpAnyH_take (i := 9) (v := .int .i64 sl) rfl (by kernel_rfl) (by kernel_rfl) (by kernel_rfl) (fun _ _ _ h => h) (Or.inl ⟨by rfl, (fun W hW => by have q9 := (act_cells hW).1; go_simp)⟩) HHd.out ?_
          simp only [List.getElem_toArray, List.getElem_cons_succ, List.getElem_cons_zero, Act.put, List.setIfInBounds_toArray, List.set_cons_zero, List.set_cons_succ]
          refine wpAnyH_take (i := 10) (v := .pointer (some ⟨wr.heap.size, 1, none⟩)) rfl (by kernel_rfl) (by kernel_rfl) (by kernel_rfl) (fun _ _ _ h => h) (Or.inl ⟨by rfl, (fun W _ => by go_simp)⟩) HHd.out ?_
          simp only [List.getElem_toArray, List.getElem_cons_succ, List.getElem_cons_zero, Act.put, List.setIfInBounds_toArray, List.set_cons_zero, List.set_cons_succ]
          refine wpAnyH_take (i := 11) (v := .int .i64 q) rfl (by kernel_rfl) (by kernel_rfl) (by kernel_rfl) (fun _ _ _ h => h) (Or.inl ⟨by rfl, (fun W hW => by have q9 := (act_cells hW).2.1; go_simp)⟩) HHd.out ?_
          simp only [List.getElem_toArray, List.getElem_cons_succ, List.getElem_cons_zero, Act.put, List.setIfInBounds_toArray, List.set_cons_zero, List.set_cons_succ]
          refine wpAnyH_take (i := 12) (v := .int .i64 sec) rfl (by kernel_rfl) (by kernel_rfl) (by kernel_rfl) (fun _ _ _ h => h) (Or.inl ⟨by rfl, (fun W _ => by go_simp)⟩) HHd.out ?_
          simp only [List.getElem_toArray, List.getElem_cons_succ, List.getElem_cons_zero, Act.put, List.setIfInBounds_toArray, List.set_cons_zero, List.set_cons_succ]
          refine wpAnyH_ready (rs := [6]) (by kernel_rfl) (by simp) ?_
          refine AllReadyH.cons rfl (fun K hK => ?_) AllReadyH.nil
          go_simp
          refine (HM1.out).mono ?_
          rintro e v1 ⟨rfl, b1⟩; have H31 := Lib.hid (H3d.out.kept b1); have HH1 := Lib.hid (HHd.out.kept b1); clear b1
          refine hK.out _ _ HH1.out (fun _ => ?_)
          clear hK K
          have HM2 := Lib.hid (rmay_any sl q sec v1 H31.out.b H31.out.r HG1.out.fr (by rw [HRO1.out]; have := HO1.out; omega) (by rw [HG1.out.wr]; exact HQO.out))
          rw [HFR.out] at HM2
          clear H3d HHd HM1
          refine wpAnyH_ready (rs := [13]) (by kernel_rfl) (by simp) ?_
          refine AllReadyH.cons rfl (fun K hK => ?_) AllReadyH.nil
          go_simp
          refine (HM2.out).mono ?_
          rintro e v2 ⟨rfl, b2⟩; have H32 := Lib.hid (H31.out.kept b2); have HH2 := Lib.hid (HH1.out.kept b2); clear b2
          refine hK.out _ _ HH2.out (fun _ => ?_)
          clear hK K
          clear HM2 HFR H31 HH1
          refine wpAnyH_take (i := 14) (v := .bool false) rfl (by kernel_rfl) (by kernel_rfl) (by kernel_rfl) (fun _ _ _ h => h) (Or.inl ⟨by rfl, (fun W _ => by go_simp)⟩) HH2.out ?_
          simp only [List.getElem_toArray, List.getElem_cons_succ, List.getElem_cons_zero, Act.put, List.setIfInBounds_toArray, List.set_cons_zero, List.set_cons_succ]
          refine wpAnyH_take (i := 15) (v := .bool false) rfl (by kernel_rfl) (by kernel_rfl) (by kernel_rfl) (fun _ _ _ h => h) (Or.inl ⟨by rfl, (fun W _ => by go_simp)⟩) HH2.out ?_
          simp only [List.getElem_toArray, List.getElem_cons_succ, List.getElem_cons_zero, Act.put, List.setIfInBounds_toArray, List.set_cons_zero, List.set_cons_succ]
          refine wpAnyH_take (i := 16) (v := .pointer (some ⟨x, 0, none⟩)) rfl (by kernel_rfl) (by kernel_rfl) (by kernel_rfl) (fun _ _ _ h => h) (Or.inl ⟨by rfl, (fun W _ => by go_simp)⟩) HH2.out ?_
          simp only [List.getElem_toArray, List.getElem_cons_succ, List.getElem_cons_zero, Act.put, List.setIfInBounds_toArray, List.set_cons_zero, List.set_cons_succ]
          refine wpAnyH_take (i := 17) (v := .pointer (some ⟨wr.heap.size, 0, none⟩)) rfl (by kernel_rfl) (by kernel_rfl) (by kernel_rfl) (fun _ _ _ h => h) (Or.inl ⟨by rfl, (fun W _ => by go_simp)⟩) HH2.out ?_
          simp only [List.getElem_toArray, List.getElem_cons_succ, List.getElem_cons_zero, Act.put, List.setIfInBounds_toArray, List.set_cons_zero, List.set_cons_succ]
          refine wpAnyH_take (i := 18) (v := .int .i64 sl) rfl (by kernel_rfl) (by kernel_rfl) (by kernel_rfl) (fun _ _ _ h => h) (Or.inl ⟨by rfl, (fun W hW => by have q9 := (act_cells hW).1; go_simp)⟩) HH2.out ?_
          simp only [List.getElem_toArray, List.getElem_cons_succ, List.getElem_cons_zero, Act.put, List.setIfInBounds_toArray, List.set_cons_zero, List.set_cons_succ]
          refine wpAnyH_take (i := 19) (v := .pointer (some ⟨wr.heap.size, 1, none⟩)) rfl (by kernel_rfl) (by kernel_rfl) (by kernel_rfl) (fun _ _ _ h => h) (Or.inl ⟨by rfl, (fun W _ => by go_simp)⟩) HH2.out ?_
          simp only [List.getElem_toArray, List.getElem_cons_succ, List.getElem_cons_zero, Act.put, List.setIfInBounds_toArray, List.set_cons_zero, List.set_cons_succ]
          refine wpAnyH_take (i := 20) (v := .int .i64 q) rfl (by kernel_rfl) (by kernel_rfl) (by kernel_rfl) (fun _ _ _ h => h) (Or.inl ⟨by rfl, (fun W hW => by have q9 := (act_cells hW).2.1; go_simp)⟩) HH2.out ?_
          simp only [List.getElem_toArray, List.getElem_cons_succ, List.getElem_cons_zero, Act.put, List.setIfInBounds_toArray, List.set_cons_zero, List.set_cons_succ]
          refine wpAnyH_take (i := 21) (v := .int .i64 sec) rfl (by kernel_rfl) (by kernel_rfl) (by kernel_rfl) (fun _ _ _ h => h) (Or.inl ⟨by rfl, (fun W _ => by go_simp)⟩) HH2.out ?_
          simp only [List.getElem_toArray, List.getElem_cons_succ, List.getElem_cons_zero, Act.put, List.setIfInBounds_toArray, List.set_cons_zero, List.set_cons_succ]
          refine wpAnyH_take (i := 22) (v := .pointer (some ⟨wr.heap.size, 3, none⟩)) rfl (by kernel_rfl) (by kernel_rfl) (by kernel_rfl) (fun _ _ _ h => h) (Or.inl ⟨by rfl, (fun W _ => by go_simp)⟩) HH2.out ?_
          simp only [List.getElem_toArray, List.getElem_cons_succ, List.getElem_cons_zero, Act.put, List.setIfInBounds_toArray, List.set_cons_zero, List.set_cons_succ]
          refine wpAnyH_take (i := 23) (v := .slice BA BL BC) rfl (by kernel_rfl) (by kernel_rfl) (by kernel_rfl) (fun _ _ _ h => h) (Or.inl ⟨by rfl, (fun W hW => by have q9 := (act_cells hW).2.2.2.1; go_simp)⟩) HH2.out ?_
          simp only [List.getElem_toArray, List.getElem_cons_succ, List.getElem_cons_zero, Act.put, List.setIfInBounds_toArray, List.set_cons_zero, List.set_cons_succ]
          refine wpAnyH_take (i := 27) (v := .pointer (some ⟨y, 0, none⟩)) rfl (by kernel_rfl) (by kernel_rfl) (by kernel_rfl) (fun _ _ _ h => h) (Or.inl ⟨by rfl, (fun W _ => by go_simp)⟩) HH2.out ?_
          simp only [List.getElem_toArray, List.getElem_cons_succ, List.getElem_cons_zero, Act.put, List.setIfInBounds_toArray, List.set_cons_zero, List.set_cons_succ]
          refine wpAnyH_take (i := 28) (v := .pointer (some ⟨wr.heap.size, 0, none⟩)) rfl (by kernel_rfl) (by kernel_rfl) (by kernel_rfl) (fun _ _ _ h => h) (Or.inl ⟨by rfl, (fun W _ => by go_simp)⟩) HH2.out ?_
          simp only [List.getElem_toArray, List.getElem_cons_succ, List.getElem_cons_zero, Act.put, List.setIfInBounds_toArray, List.set_cons_zero, List.set_cons_succ]
          refine wpAnyH_take (i := 29) (v := .int .i64 sl) rfl (by kernel_rfl) (by kernel_rfl) (by kernel_rfl) (fun _ _ _ h => h) (Or.inl ⟨by rfl, (fun W hW => by have q9 := (act_cells hW).1; go_simp)⟩) HH2.out ?_
          simp only [List.getElem_toArray, List.getElem_cons_succ, List.getElem_cons_zero, Act.put, List.setIfInBounds_toArray, List.set_cons_zero, List.set_cons_succ]
          refine wpAnyH_take (i := 30) (v := .pointer (some ⟨wr.heap.size, 1, none⟩)) rfl (by kernel_rfl) (by kernel_rfl) (by kernel_rfl) (fun _ _ _ h => h) (Or.inl ⟨by rfl, (fun W _ => by go_simp)⟩) HH2.out ?_
          simp only [List.getElem_toArray, List.getElem_cons_succ, List.getElem_cons_zero, Act.put, List.setIfInBounds_toArray, List.set_cons_zero, List.set_cons_succ]
          refine wpAnyH_take (i := 31) (v := .int .i64 q) rfl (by kernel_rfl) (by kernel_rfl) (by kernel_rfl) (fun _ _ _ h => h) (Or.inl ⟨by rfl, (fun W hW => by have q9 := (act_cells hW).2.1; go_simp)⟩) HH2.out ?_
          simp only [List.getElem_toArray, List.getElem_cons_succ, List.getElem_cons_zero, Act.put, List.setIfInBounds_toArray, List.set_cons_zero, List.set_cons_succ]
          refine wpAnyH_take (i := 32) (v := .int .i64 sec) rfl (by kernel_rfl) (by kernel_rfl) (by kernel_rfl) (fun _ _ _ h => h) (Or.inl ⟨by rfl, (fun W _ => by go_simp)⟩) HH2.out ?_
          simp only [List.getElem_toArray, List.getElem_cons_succ, List.getElem_cons_zero, Act.put, List.setIfInBounds_toArray, List.set_cons_zero, List.set_cons_succ]
          refine wpAnyH_take (i := 33) (v := .pointer (some ⟨wr.heap.size, 3, none⟩)) rfl (by kernel_rfl) (by kernel_rfl) (by kernel_rfl) (fun _ _ _ h => h) (Or.inl ⟨by rfl, (fun W _ => by go_simp)⟩) HH2.out ?_
          simp only [List.getElem_toArray, List.getElem_cons_succ, List.getElem_cons_zero, Act.put, List.setIfInBounds_toArray, List.set_cons_zero, List.set_cons_succ]
          refine wpAnyH_take (i := 34) (v := .slice BA BL BC) rfl (by kernel_rfl) (by kernel_rfl) (by kernel_rfl) (fun _ _ _ h => h) (Or.inl ⟨by rfl, (fun W hW => by have q9 := (act_cells hW).2.2.2.1; go_simp)⟩) HH2.out ?_
          simp only [List.getElem_toArray, List.getElem_cons_succ, List.getElem_cons_zero, Act.put, List.setIfInBounds_toArray, List.set_cons_zero, List.set_cons_succ]
          have k7 := row_below H32.out.low HBB.out
          obtain ⟨v8, w8, hrun8, o8, g8⟩ := runs_app v2 v2.heap.size 34 (.slice none 0 0) 0 [] (own_nil _ _) BA BL BC bs k7 (row_none k7) (by omega) (Nat.le_refl _)
          rw [Nat.zero_add, List.nil_append] at o8
          have b8 : Below v2.heap.size v2 w8 := below_own (Below.refl _ v2) (own_nil v2 v2.heap.size) g8 (Nat.le_refl _) (Nat.le_refl _)
          have HH8 := Lib.hid (HH2.out.kept b8)
          have H38 := Lib.hid (H32.out.kept b8)
          refine wpAnyH_ready (rs := [24]) (by kernel_rfl) (by simp) ?_
          refine AllReadyH.cons rfl (fun K hK => ?_) AllReadyH.nil
          refine step_run (by rfl) (.const (.slice none 0 0)) (.tmp 107) rfl 34 rfl (.slice none 0 0) (.slice BA BL BC) v8 rfl rfl hrun8 ?_
          refine hK.out _ _ HH8.out (fun _ => ?_)
          clear hK K hrun8
          simp only [List.getElem_toArray, List.getElem_cons_succ, List.getElem_cons_zero, Act.put, List.setIfInBounds_toArray, List.set_cons_zero, List.set_cons_succ]
          obtain ⟨A8, c8, rfl, hc8, r8, l8⟩ := o8.form
          have hc9 : Clear g m k A8 BL := .inr fun y hy e => by have := (l8 y hy).1; have := (HAT.out.lf _ e).2; have := H32.out.top; omega
          have HPt := Lib.hid (write_any sl q sec A8 BL c8 bs w8 H38.out.a (HAT.out.nf HAT.out.x) H38.out.f HG1.out.fs (by have := HO1.out; omega) (by rw [HG1.out.wl]; exact HPO.out) r8 hc9)
          have HEq := Lib.hid (al_write HG1.out HLK.out sl q sec bs).1
          have HG2 := Lib.hid (al_write HG1.out HLK.out sl q sec bs).2
          have HO2 := Lib.hid (show (writeW S1 P sl q sec bs).2.ops ≤ 2 * (j + 1) by have := (write_wears S1 P sl q sec bs).2; have := HO1.out; omega)
          obtain ⟨S2, hS2⟩ : ∃ S2, (writeW S1 P sl q sec bs).2 = S2 := ⟨_, rfl⟩
          obtain ⟨E2, hE2⟩ : ∃ E2, (writeW S1 P sl q sec bs).1 = E2 := ⟨_, rfl⟩
          obtain ⟨R2, hR2⟩ : ∃ R2, (writeW R1 Q sl q sec bs).2 = R2 := ⟨_, rfl⟩
          rw [hS2] at HPt HG2 HO2
          rw [hE2] at HPt HEq
          rw [hR2] at HG2
          have HR2 := Lib.hid hR2
          clear o8 g8 k7 r8 b8 hc9 l8 hS2 hE2 hR2 HH2 H32
          refine wpAnyH_ready (rs := [25]) (by kernel_rfl) (by simp) ?_
          refine AllReadyH.cons rfl (fun K hK => ?_) AllReadyH.nil
          go_simp
          refine (HPt.out).mono ?_
          rintro e w9 ⟨rfl, t9⟩; have HH9 := Lib.hid (HH8.out.only t9.2 HNF.out); have H39 := Lib.hid (H38.out.of_f HAT.out t9); clear t9
          refine hK.out _ _ HH9.out (fun _ => ?_)
          clear hK K
          clear HPt HH8 H38
          refine wpAnyH_ready (rs := [26]) (by kernel_rfl) (by simp) ?_
          refine AllReadyH.cons rfl (fun K hK => ?_) AllReadyH.nil
          go_simp
          refine (lnum_any _ _).mono ?_
          rintro e w10 ⟨rfl, rfl⟩
          refine hK.out _ _ HH9.out (fun _ => ?_)
          clear hK K
          have HPr := Lib.hid (rwrite_any sl q sec BA BL BC bs w9 H39.out.b (HAT.out.nr HAT.out.y) H39.out.r HG1.out.fr (by rw [HRO1.out]; have := HO1.out; omega) (by rw [HG1.out.wr]; exact HQO.out) (row_below H39.out.low HBB.out) (by omega) (HCR.out _ _ _ HBB.out))
          rw [HEq.out, HR2.out] at HPr
          clear HR2 HEq
          refine wpAnyH_ready (rs := [35]) (by kernel_rfl) (by simp) ?_
          refine AllReadyH.cons rfl (fun K hK => ?_) AllReadyH.nil
          go_simp
          refine (HPr.out).mono ?_
          rintro e w11 ⟨rfl, t11⟩; have HH11 := Lib.hid (HH9.out.only t11.2 HNR.out); have H311 := Lib.hid (H39.out.of_r HAT.out t11); clear t11
          refine hK.out _ _ HH11.out (fun _ => ?_)
          clear hK K
          clear HPr HH9 H39 HG1 HO1 HRO1
          obtain ⟨ai, hai⟩ : ∃ ai, atI sl q sec = ai := ⟨_, rfl⟩
          have HAI := Lib.hid hai
          clear hai
          refine wpAnyH_take (i := 36) (v := .bool false) rfl (by kernel_rfl) (by kernel_rfl) (by kernel_rfl) (fun _ _ _ h => h) (Or.inl ⟨by rfl, (fun W _ => by go_simp)⟩) HH11.out ?_
          simp only [List.getElem_toArray, List.getElem_cons_succ, List.getElem_cons_zero, Act.put, List.setIfInBounds_toArray, List.set_cons_zero, List.set_cons_succ]
          refine wpAnyH_take (i := 37) (v := .bool false) rfl (by kernel_rfl) (by kernel_rfl) (by kernel_rfl) (fun _ _ _ h => h) (Or.inl ⟨by rfl, (fun W _ => by go_simp)⟩) HH11.out ?_
          simp only [List.getElem_toArray, List.getElem_cons_succ, List.getElem_cons_zero, Act.put, List.setIfInBounds_toArray, List.set_cons_zero, List.set_cons_succ]
          refine wpAnyH_take (i := 38) (v := .bool false) rfl (by kernel_rfl) (by kernel_rfl) (by kernel_rfl) (fun _ _ _ h => h) (Or.inl ⟨by rfl, (fun W _ => by go_simp)⟩) HH11.out ?_
          simp only [List.getElem_toArray, List.getElem_cons_succ, List.getElem_cons_zero, Act.put, List.setIfInBounds_toArray, List.set_cons_zero, List.set_cons_succ]
          refine wpAnyH_take (i := 39) (v := .pointer (some ⟨wr.heap.size, 0, none⟩)) rfl (by kernel_rfl) (by kernel_rfl) (by kernel_rfl) (fun _ _ _ h => h) (Or.inl ⟨by rfl, (fun W _ => by go_simp)⟩) HH11.out ?_
          simp only [List.getElem_toArray, List.getElem_cons_succ, List.getElem_cons_zero, Act.put, List.setIfInBounds_toArray, List.set_cons_zero, List.set_cons_succ]
          refine wpAnyH_take (i := 40) (v := .int .i64 sl) rfl (by kernel_rfl) (by kernel_rfl) (by kernel_rfl) (fun _ _ _ h => h) (Or.inl ⟨by rfl, (fun W hW => by have q9 := (act_cells hW).1; go_simp)⟩) HH11.out ?_
          simp only [List.getElem_toArray, List.getElem_cons_succ, List.getElem_cons_zero, Act.put, List.setIfInBounds_toArray, List.set_cons_zero, List.set_cons_succ]
          refine wpAnyH_take (i := 41) (v := .pointer (some ⟨wr.heap.size, 1, none⟩)) rfl (by kernel_rfl) (by kernel_rfl) (by kernel_rfl) (fun _ _ _ h => h) (Or.inl ⟨by rfl, (fun W _ => by go_simp)⟩) HH11.out ?_
          simp only [List.getElem_toArray, List.getElem_cons_succ, List.getElem_cons_zero, Act.put, List.setIfInBounds_toArray, List.set_cons_zero, List.set_cons_succ]
          refine wpAnyH_take (i := 42) (v := .int .i64 q) rfl (by kernel_rfl) (by kernel_rfl) (by kernel_rfl) (fun _ _ _ h => h) (Or.inl ⟨by rfl, (fun W hW => by have q9 := (act_cells hW).2.1; go_simp)⟩) HH11.out ?_
          simp only [List.getElem_toArray, List.getElem_cons_succ, List.getElem_cons_zero, Act.put, List.setIfInBounds_toArray, List.set_cons_zero, List.set_cons_succ]
          refine wpAnyH_take (i := 43) (v := .int .i64 sec) rfl (by kernel_rfl) (by kernel_rfl) (by kernel_rfl) (fun _ _ _ h => h) (Or.inl ⟨by rfl, (fun W _ => by go_simp)⟩) HH11.out ?_
          simp only [List.getElem_toArray, List.getElem_cons_succ, List.getElem_cons_zero, Act.put, List.setIfInBounds_toArray, List.set_cons_zero, List.set_cons_succ]
          refine wpAnyH_take (i := 45) (v := .pointer (some ⟨wr.heap.size, 0, none⟩)) rfl (by kernel_rfl) (by kernel_rfl) (by kernel_rfl) (fun _ _ _ h => h) (Or.inl ⟨by rfl, (fun W _ => by go_simp)⟩) HH11.out ?_
          simp only [List.getElem_toArray, List.getElem_cons_succ, List.getElem_cons_zero, Act.put, List.setIfInBounds_toArray, List.set_cons_zero, List.set_cons_succ]
          refine wpAnyH_take (i := 46) (v := .int .i64 sl) rfl (by kernel_rfl) (by kernel_rfl) (by kernel_rfl) (fun _ _ _ h => h) (Or.inl ⟨by rfl, (fun W hW => by have q9 := (act_cells hW).1; go_simp)⟩) HH11.out ?_
          simp only [List.getElem_toArray, List.getElem_cons_succ, List.getElem_cons_zero, Act.put, List.setIfInBounds_toArray, List.set_cons_zero, List.set_cons_succ]
          refine wpAnyH_take (i := 47) (v := .pointer (some ⟨wr.heap.size, 1, none⟩)) rfl (by kernel_rfl) (by kernel_rfl) (by kernel_rfl) (fun _ _ _ h => h) (Or.inl ⟨by rfl, (fun W _ => by go_simp)⟩) HH11.out ?_
          simp only [List.getElem_toArray, List.getElem_cons_succ, List.getElem_cons_zero, Act.put, List.setIfInBounds_toArray, List.set_cons_zero, List.set_cons_succ]
          refine wpAnyH_take (i := 48) (v := .int .i64 q) rfl (by kernel_rfl) (by kernel_rfl) (by kernel_rfl) (fun _ _ _ h => h) (Or.inl ⟨by rfl, (fun W hW => by have q9 := (act_cells hW).2.1; go_simp)⟩) HH11.out ?_
          simp only [List.getElem_toArray, List.getElem_cons_succ, List.getElem_cons_zero, Act.put, List.setIfInBounds_toArray, List.set_cons_zero, List.set_cons_succ]
          refine wpAnyH_take (i := 49) (v := .int .i64 sec) rfl (by kernel_rfl) (by kernel_rfl) (by kernel_rfl) (fun _ _ _ h => h) (Or.inl ⟨by rfl, (fun W _ => by go_simp)⟩) HH11.out ?_
          simp only [List.getElem_toArray, List.getElem_cons_succ, List.getElem_cons_zero, Act.put, List.setIfInBounds_toArray, List.set_cons_zero, List.set_cons_succ]
          refine wpAnyH_ready (rs := [44]) (by kernel_rfl) (by simp) ?_
          refine AllReadyH.cons rfl (fun K hK => ?_) AllReadyH.nil
          go_simp
          refine (from_any sl q sec _).mono ?_
          rintro e w12 ⟨rfl, rfl⟩; rw [HAI.out]
          refine hK.out _ _ HH11.out (fun _ => ?_)
          clear hK K
          refine wpAnyH_ready (rs := [50]) (by kernel_rfl) (by simp) ?_
          refine AllReadyH.cons rfl (fun K hK => ?_) AllReadyH.nil
          go_simp
          refine (rfrom_any sl q sec _).mono ?_
          rintro e w12 ⟨rfl, rfl⟩; rw [HAI.out]
          refine hK.out _ _ HH11.out (fun _ => ?_)
          clear hK K
          refine wpAnyH_take (i := 51) (v := .bool false) rfl (by kernel_rfl) (by kernel_rfl) (by kernel_rfl) (fun _ _ _ h => h) (Or.inl ⟨by rfl, (fun W _ => by go_simp)⟩) HH11.out ?_
          simp only [List.getElem_toArray, List.getElem_cons_succ, List.getElem_cons_zero, Act.put, List.setIfInBounds_toArray, List.set_cons_zero, List.set_cons_succ]
          refine wpAnyH_take (i := 52) (v := .bool false) rfl (by kernel_rfl) (by kernel_rfl) (by kernel_rfl) (fun _ _ _ h => h) (Or.inl ⟨by rfl, (fun W _ => by go_simp)⟩) HH11.out ?_
          simp only [List.getElem_toArray, List.getElem_cons_succ, List.getElem_cons_zero, Act.put, List.setIfInBounds_toArray, List.set_cons_zero, List.set_cons_succ]
          refine wpAnyH_done (by kernel_rfl) ?_ _
          clear HAI
          have HG3 := Lib.hid (al_power HG2.out)
          have HO3 := Lib.hid (show (power S2).ops ≤ 2 * (j + 1) from HO2.out)
          have HPw := Lib.hid (power_any w11 H311.out.f)
          obtain ⟨S3, hS3⟩ : ∃ S3, power S2 = S3 := ⟨_, rfl⟩
          obtain ⟨R3, hR3⟩ : ∃ R3, power R2 = R3 := ⟨_, rfl⟩
          have HOK3 := Lib.hid (show S3.Ok by rw [← hS3]; exact power_ok H311.out.f.ok)
          rw [hS3] at HPw HG3 HO3
          rw [hR3] at HG3
          have HR3 := Lib.hid hR3
          clear hS3 hR3 HG2 HO2
          obtain ⟨im, him⟩ : ∃ im, imgL S3 P sl sec size = im := ⟨_, rfl⟩
          have HIM := Lib.hid him
          have HIR := Lib.hid ((al_img HG3.out HLK.out sl sec size).trans him)
          have HIL := Lib.hid (show im.length ≤ 1920 by rw [← him]; exact imgL_len HOK3.out (by rw [HG3.out.wl]; exact HPO.out) sl sec size)
          clear him
          go_wp2_with (first
            | (go_at_call 18; (with_reducible refine HPw.out.mono ?_); rintro e w13 ⟨rfl, t13⟩; have HH13 := Lib.hid (HH11.out.only t13.2 HNF.out); have H313 := Lib.hid (H311.out.of_f HAT.out t13); have HPx := Lib.hid (rpower_any w13 H313.out.r); rw [HR3.out] at HPx; clear t13 HPw HH11 H311)
            | (go_at_call 19; (with_reducible refine HPx.out.mono ?_); rintro e w14 ⟨rfl, t14⟩; have HH14 := Lib.hid (HH13.out.only t14.2 HNR.out); have H314 := Lib.hid (H313.out.of_r HAT.out t14); obtain ⟨e0, e1, e2, e3, e4, e5⟩ := act_cells HH14.out; have HRd := Lib.hid (rimage_any sl sec size w14 H314.out.b H314.out.r (by rw [HG3.out.wr]; exact HQO.out) HSZ.out); rw [HIR.out] at HRd; clear t14 HPx HH13 H313)
            | (go_at_call 20; (with_reducible refine HRd.out.mono ?_); rintro e w15 ⟨v15, rfl, o15, b15⟩; clear HRd e0 e1 e2 e3 e4 e5; have HH15 := Lib.hid (HH14.out.kept b15); have H315 := Lib.hid (H314.out.kept b15); obtain ⟨A15, c15, rfl, hc15, r15, _⟩ := o15.form; have HR15 := Lib.hid r15; have HC15 := Lib.hid hc15; clear o15 r15 hc15 b15 HH14 H314))
          have H3f := Lib.hid (H315.out.kept ((Below.refl _ w15).drew))
          have HSf := Lib.hid (show Has w15.drew wr.heap.size 36 (actCells sl q nn BA BL BC MA ML MC true) ∧ Below w15.drew.heap.size w15.drew w15.drew from ⟨HH15.out, Below.refl _ _⟩)
          have HRf := Lib.hid (show Row w15.drew A15 im.length im from row_below (Below.refl _ w15).drew HR15.out)
          have HVy := Lib.hid (fun W (hW : Below w15.drew.heap.size w15.drew W) => conv_row (c := c15) (row_below hW HRf.out))
          have HIa := Lib.hid (image_any sl sec size w15.drew H3f.out.a H3f.out.f (by rw [HG3.out.wl]; exact HPO.out) HSZ.out)
          rw [HIM.out] at HIa
          clear H315 HH15 HR15
          refine wp_region_held_drew (S := fun W => Has W wr.heap.size 36 (actCells sl q nn BA BL BC MA ML MC true) ∧ Below w15.drew.heap.size w15.drew W) (by kernel_rfl) HSf.out ?_
          intro _
          refine wpAnyH_take (i := 0) (v := .pointer (some ⟨x, 0, none⟩)) rfl (by kernel_rfl) (by kernel_rfl) (by kernel_rfl) (fun _ _ _ h => h) (Or.inl ⟨by rfl, (fun W _ => by go_simp)⟩) HSf.out ?_
          simp only [List.getElem_toArray, List.getElem_cons_succ, List.getElem_cons_zero, Act.put, List.setIfInBounds_toArray, List.set_cons_zero, List.set_cons_succ]
          refine wpAnyH_take (i := 1) (v := .pointer (some ⟨wr.heap.size, 0, none⟩)) rfl (by kernel_rfl) (by kernel_rfl) (by kernel_rfl) (fun _ _ _ h => h) (Or.inl ⟨by rfl, (fun W _ => by go_simp)⟩) HSf.out ?_
          simp only [List.getElem_toArray, List.getElem_cons_succ, List.getElem_cons_zero, Act.put, List.setIfInBounds_toArray, List.set_cons_zero, List.set_cons_succ]
          refine wpAnyH_take (i := 2) (v := .int .i64 sl) rfl (by kernel_rfl) (by kernel_rfl) (by kernel_rfl) (fun _ _ _ h => h) (Or.inl ⟨by rfl, (fun W hW => by have q9 := (act_cells hW.1).1; go_simp)⟩) HSf.out ?_
          simp only [List.getElem_toArray, List.getElem_cons_succ, List.getElem_cons_zero, Act.put, List.setIfInBounds_toArray, List.set_cons_zero, List.set_cons_succ]
          refine wpAnyH_take (i := 3) (v := .int .i64 sec) rfl (by kernel_rfl) (by kernel_rfl) (by kernel_rfl) (fun _ _ _ h => h) (Or.inl ⟨by rfl, (fun W _ => by go_simp)⟩) HSf.out ?_
          simp only [List.getElem_toArray, List.getElem_cons_succ, List.getElem_cons_zero, Act.put, List.setIfInBounds_toArray, List.set_cons_zero, List.set_cons_succ]
          refine wpAnyH_take (i := 4) (v := .int .i64 size) rfl (by kernel_rfl) (by kernel_rfl) (by kernel_rfl) (fun _ _ _ h => h) (Or.inl ⟨by rfl, (fun W _ => by go_simp)⟩) HSf.out ?_
          simp only [List.getElem_toArray, List.getElem_cons_succ, List.getElem_cons_zero, Act.put, List.setIfInBounds_toArray, List.set_cons_zero, List.set_cons_succ]
          refine wpAnyH_take (i := 7) (v := .slice A15 im.length c15) rfl (by kernel_rfl) (by kernel_rfl) (by kernel_rfl) (fun _ _ _ h => h) (Or.inl ⟨by rfl, (fun W _ => by go_simp)⟩) HSf.out ?_
          simp only [List.getElem_toArray, List.getElem_cons_succ, List.getElem_cons_zero, Act.put, List.setIfInBounds_toArray, List.set_cons_zero, List.set_cons_succ]
          refine wpAnyH_take (i := 8) (v := .string (strOfNums im)) rfl (by kernel_rfl) (by kernel_rfl) (by kernel_rfl) (fun _ _ _ h => h) (Or.inl ⟨by rfl, (fun W hW => by have q9 := HVy.out W hW.2; go_simp)⟩) HSf.out ?_
          simp only [List.getElem_toArray, List.getElem_cons_succ, List.getElem_cons_zero, Act.put, List.setIfInBounds_toArray, List.set_cons_zero, List.set_cons_succ]
          refine wpAnyH_ready (rs := [5]) (by kernel_rfl) (by simp) ?_
          refine AllReadyH.cons rfl (fun K hK => ?_) AllReadyH.nil
          go_simp
          refine (HIa.out).mono ?_
          rintro e w16 ⟨v16, rfl, o16, b16⟩; have HS16 := Lib.hid (And.intro (HSf.out.1.kept b16) b16); have H316 := Lib.hid (H3f.out.kept b16); have HB16 := Lib.hid b16; obtain ⟨A16, c16, rfl, _, r16, _⟩ := o16.form; have HV16 := Lib.hid (fun W (hW : Below w16.heap.size w16 W) => conv_row (c := c16) (row_below hW r16)); have HT16 := Lib.hid (And.intro HS16.out.1 (Below.refl w16.heap.size w16)); clear b16 o16
          refine hK.out _ _ HS16.out (fun _ => ?_)
          clear hK K
          refine wpAnyH_strong (S' := fun W => Has W wr.heap.size 36 (actCells sl q nn BA BL BC MA ML MC true) ∧ Below w16.heap.size w16 W) (fun W h => ⟨h.1, HB16.out.trans (h.2.mono HB16.out.size)⟩) _ _ _ _ ?_
          have HDg := Lib.hid (sdigest_any sl sec size w16 H316.out.a H316.out.f (by rw [HG3.out.wl]; exact HPO.out) HSZ.out (HT.out.kept H316.out.low))
          rw [HIM.out] at HDg
          obtain ⟨dg, hdg⟩ : ∃ dg, Sha.shaI im = dg := ⟨_, rfl⟩
          have HDL := Lib.hid (show dg.length = 32 by rw [← hdg]; rfl)
          have HDE := Lib.hid hdg
          rw [hdg] at HDg
          clear HIa H3f HSf hdg
          refine wpAnyH_take (i := 6) (v := .string (strOfNums im)) rfl (by kernel_rfl) (by kernel_rfl) (by kernel_rfl) (fun _ _ _ h => h) (Or.inl ⟨by rfl, (fun W hW => by have q9 := HV16.out W hW.2; go_simp)⟩) HT16.out ?_
          simp only [List.getElem_toArray, List.getElem_cons_succ, List.getElem_cons_zero, Act.put, List.setIfInBounds_toArray, List.set_cons_zero, List.set_cons_succ]
          refine wpAnyH_take (i := 9) (v := .bool false) rfl (by kernel_rfl) (by kernel_rfl) (by kernel_rfl) (fun _ _ _ h => h) (Or.inl ⟨by rfl, (fun W _ => by go_simp)⟩) HT16.out ?_
          simp only [List.getElem_toArray, List.getElem_cons_succ, List.getElem_cons_zero, Act.put, List.setIfInBounds_toArray, List.set_cons_zero, List.set_cons_succ]
          refine wpAnyH_take (i := 10) (v := .bool false) rfl (by kernel_rfl) (by kernel_rfl) (by kernel_rfl) (fun _ _ _ h => h) (Or.inl ⟨by rfl, (fun W _ => by go_simp)⟩) HT16.out ?_
          simp only [List.getElem_toArray, List.getElem_cons_succ, List.getElem_cons_zero, Act.put, List.setIfInBounds_toArray, List.set_cons_zero, List.set_cons_succ]
          refine wpAnyH_take (i := 11) (v := .pointer (some ⟨x, 0, none⟩)) rfl (by kernel_rfl) (by kernel_rfl) (by kernel_rfl) (fun _ _ _ h => h) (Or.inl ⟨by rfl, (fun W _ => by go_simp)⟩) HT16.out ?_
          simp only [List.getElem_toArray, List.getElem_cons_succ, List.getElem_cons_zero, Act.put, List.setIfInBounds_toArray, List.set_cons_zero, List.set_cons_succ]
          refine wpAnyH_take (i := 12) (v := .pointer (some ⟨wr.heap.size, 0, none⟩)) rfl (by kernel_rfl) (by kernel_rfl) (by kernel_rfl) (fun _ _ _ h => h) (Or.inl ⟨by rfl, (fun W _ => by go_simp)⟩) HT16.out ?_
          simp only [List.getElem_toArray, List.getElem_cons_succ, List.getElem_cons_zero, Act.put, List.setIfInBounds_toArray, List.set_cons_zero, List.set_cons_succ]
          refine wpAnyH_take (i := 13) (v := .int .i64 sl) rfl (by kernel_rfl) (by kernel_rfl) (by kernel_rfl) (fun _ _ _ h => h) (Or.inl ⟨by rfl, (fun W hW => by have q9 := (act_cells hW.1).1; go_simp)⟩) HT16.out ?_
          simp only [List.getElem_toArray, List.getElem_cons_succ, List.getElem_cons_zero, Act.put, List.setIfInBounds_toArray, List.set_cons_zero, List.set_cons_succ]
          refine wpAnyH_take (i := 14) (v := .int .i64 sec) rfl (by kernel_rfl) (by kernel_rfl) (by kernel_rfl) (fun _ _ _ h => h) (Or.inl ⟨by rfl, (fun W _ => by go_simp)⟩) HT16.out ?_
          simp only [List.getElem_toArray, List.getElem_cons_succ, List.getElem_cons_zero, Act.put, List.setIfInBounds_toArray, List.set_cons_zero, List.set_cons_succ]
          refine wpAnyH_take (i := 15) (v := .int .i64 size) rfl (by kernel_rfl) (by kernel_rfl) (by kernel_rfl) (fun _ _ _ h => h) (Or.inl ⟨by rfl, (fun W _ => by go_simp)⟩) HT16.out ?_
          simp only [List.getElem_toArray, List.getElem_cons_succ, List.getElem_cons_zero, Act.put, List.setIfInBounds_toArray, List.set_cons_zero, List.set_cons_succ]
          refine wpAnyH_take (i := 17) (v := .slice A15 im.length c15) rfl (by kernel_rfl) (by kernel_rfl) (by kernel_rfl) (fun _ _ _ h => h) (Or.inl ⟨by rfl, (fun W _ => by go_simp)⟩) HT16.out ?_
          simp only [List.getElem_toArray, List.getElem_cons_succ, List.getElem_cons_zero, Act.put, List.setIfInBounds_toArray, List.set_cons_zero, List.set_cons_succ]
          refine wpAnyH_ready (rs := [16]) (by kernel_rfl) (by simp) ?_
          refine AllReadyH.cons rfl (fun K hK => ?_) AllReadyH.nil
          go_simp
          refine (HDg.out).mono ?_
          rintro e w17 ⟨rfl, b17⟩; have HS17 := Lib.hid (And.intro (HT16.out.1.kept b17) b17); have H317 := Lib.hid (H316.out.kept b17); have HB17 := Lib.hid b17; have HRs := Lib.hid (Sha.rsha_any A15 im.length c15 im w17 (row_sha (row_below (HB16.out.trans (b17.mono HB16.out.size)) HRf.out)) HC15.out (by have := HIL.out; omega)); rw [HDE.out] at HRs; clear b17
          refine hK.out _ _ HS17.out (fun _ => ?_)
          clear hK K
          clear HDg H316
          refine wpAnyH_ready (rs := [18]) (by kernel_rfl) (by simp) ?_
          refine AllReadyH.cons rfl (fun K hK => ?_) AllReadyH.nil
          go_simp
          refine (HRs.out).mono ?_
          rintro e w18 ⟨rfl, b18⟩; have HS18 := Lib.hid (And.intro (HS17.out.1.kept b18) (HB17.out.trans (b18.mono HB17.out.size))); have H318 := Lib.hid (H317.out.kept b18); clear b18
          refine hK.out _ _ HS18.out (fun _ => ?_)
          clear hK K
          clear HRs H317
          refine wpAnyH_take (i := 19) (v := .bool false) rfl (by kernel_rfl) (by kernel_rfl) (by kernel_rfl) (fun _ _ _ h => h) (yields_neq32 (by rfl) (.tmp 163) (.tmp 165) rfl dg HDL.out rfl rfl) HS18.out ?_
          simp only [List.getElem_toArray, List.getElem_cons_succ, List.getElem_cons_zero, Act.put, List.setIfInBounds_toArray, List.set_cons_zero, List.set_cons_succ]
          refine wpAnyH_take (i := 20) (v := .bool false) rfl (by kernel_rfl) (by kernel_rfl) (by kernel_rfl) (fun _ _ _ h => h) (Or.inl ⟨by rfl, (fun W _ => by go_simp)⟩) HS18.out ?_
          simp only [List.getElem_toArray, List.getElem_cons_succ, List.getElem_cons_zero, Act.put, List.setIfInBounds_toArray, List.set_cons_zero, List.set_cons_succ]
          refine wpAnyH_done (by kernel_rfl) ?_ _
          go_wp2
          go_roundw
          case rel => exact ⟨j + 1, _, _, by simp, by omega, HO3.out, by rw [HD.out]; exact HG3.out, H318.out⟩
          case measure => simp only [intOf]; omega
    · obtain rfl : j = len := by omega
      as_aux_lemma =>
        have j1 : ¬ (j : Int) < (j : Int) := by omega
        obtain ⟨dg, hdg⟩ : ∃ dg, aDig S P = dg := ⟨_, rfl⟩
        have HDL := Lib.hid (show dg.length = 32 by rw [← hdg]; rfl)
        have heq := Sha.eq24 dg HDL.out
        have HG := Lib.hid hG
        have H3 := Lib.hid h3x
        have HD1 := Lib.hid (adigest_any wr h3x.a h3x.f (by rw [hG.wl]; exact HPO.out) hG.fs (by omega) (HT.out.kept h3x.low))
        rw [hdg] at HD1
        have HAl := Lib.hid (show aDig R Q = dg by rw [al_dig hG HLK.out]; exact hdg)
        clear h3x hG hdg
        go_wp2_with (first
          | (go_at_call 24; (with_reducible refine HD1.out.mono ?_); rintro e w26 ⟨rfl, b26⟩; clear HD1; have H326 := Lib.hid (H3.out.kept b26); have HD2 := Lib.hid (radigest_any w26 H326.out.b H326.out.r (by rw [HG.out.wr]; exact HQO.out) HG.out.fr (by rw [HRO.out]; omega)); rw [HAl.out] at HD2; clear b26)
          | (go_at_call 25; (with_reducible refine HD2.out.mono ?_); rintro e w27 ⟨rfl, b27⟩; clear HD2; have H327 := Lib.hid (H326.out.kept b27); clear b27))
        go_ret
        exact ⟨rfl, H327.out.low⟩
end Go.Proofs.YtklhmneapegfpaaGreatDoor
