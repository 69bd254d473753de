/-
  The document's own stream: its making and its Write; conditions: the bytes lie elsewhere, their number stays small.
-/
import Derived.Test.YtklhmneapegfpaaGreatDoorShaSum
namespace Go.Proofs.YtklhmneapegfpaaGreatDoor.Sha
open Go.RowKit
set_option linter.unusedVariables false
set_option linter.unusedSimpArgs false

/-- The cells of the document's stream: its words, its count, its rest (a slice). -/
def rsCells (H : St) (n : Nat) (v : Value) : Array Value := #[.int .u32 H.a, .int .u32 H.b, .int .u32 H.c, .int .u32 H.d, .int .u32 H.e, .int .u32 H.f, .int .u32 H.g, .int .u32 H.h, .int .u64 (n : Int), v]
def RMade (w : World) (e : Ending) (w' : World) : Prop := ∃ b, e = .returned (.pointer (some ⟨b, 0, none⟩)) ∧ w.heap.size ≤ b ∧ Has w' b 100 (rsCells st0 0 (.slice none 0 0)) ∧ Below w.heap.size w w'
set_option maxRecDepth 100000 in
theorem rfirst_any (w : World) : Calls Tryz.prog 68 #[] w fun e w' => e = .returned (.agg (stCells st0)) ∧ Below w.heap.size w w' := by
  go_enter Tryz.func68, Tryz.ntmps68
  go_wp2
  exact bodyPost_ret (results_cell_row rfl _ _ w.heap.size 92 (stCells st0) (0, 0) _ rfl (has_new w 92 (stCells st0)) Tryz.underlying92 rfl size45) rfl ⟨rfl, (Below.refl _ _).alloc (Nat.le_refl _) _⟩
theorem built53 : Tryz.prog.built 100 [(0, .agg (stCells st0))] = some (rsCells st0 0 (.slice none 0 0)) := by kernel_rfl
set_option maxRecDepth 100000 in
theorem rnew_any (w : World) : Calls Tryz.prog 43 #[] w (RMade w) := by
  go_enter Tryz.func43, Tryz.ntmps43
  go_wp2_with fail
  refine (rfirst_any _).mono ?_
  rintro e w1 ⟨rfl, H1⟩
  go_wp2_with (refine wpList_build_to rfl 100 _ rfl _ built53 ?_)
  go_ret
  exact ⟨_, rfl, H1.size, has_new w1 100 _, H1.alloc H1.size _⟩

theorem block_lit (s X : St) (zs : List Int) (hX : X = foldI s zs) (b off cap : Nat) (w : World) (hs : s.Ok) (hcap : 64 ≤ cap) (hr : Row w (some ⟨b, off, none⟩) 64 zs) :
    Calls Tryz.prog 69 #[.agg #[.int .u32 s.a, .int .u32 s.b, .int .u32 s.c, .int .u32 s.d, .int .u32 s.e, .int .u32 s.f, .int .u32 s.g, .int .u32 s.h], .slice (some ⟨b, off, none⟩) 64 cap] w fun e w' =>
      e = .returned (.agg #[.int .u32 X.a, .int .u32 X.b, .int .u32 X.c, .int .u32 X.d, .int .u32 X.e, .int .u32 X.f, .int .u32 X.g, .int .u32 X.h]) ∧ Below w.heap.size w w' := by
  subst hX
  exact block_any s b off cap zs w hs hcap hr
theorem rs_eight {w : World} {b : Nat} {K : St} {n : Nat} {v : Value} (h : Has w b 100 (rsCells K n v)) :
    w.cell? ⟨b, 0, none⟩ = some (.int .u32 K.a) ∧ w.cell? ⟨b, 1, none⟩ = some (.int .u32 K.b) ∧ w.cell? ⟨b, 2, none⟩ = some (.int .u32 K.c) ∧ w.cell? ⟨b, 3, none⟩ = some (.int .u32 K.d) ∧
    w.cell? ⟨b, 4, none⟩ = some (.int .u32 K.e) ∧ w.cell? ⟨b, 5, none⟩ = some (.int .u32 K.f) ∧ w.cell? ⟨b, 6, none⟩ = some (.int .u32 K.g) ∧ w.cell? ⟨b, 7, none⟩ = some (.int .u32 K.h) ∧
    w.frozen? ⟨b, 0, none⟩ = false ∧ w.frozen? ⟨b, 1, none⟩ = false ∧ w.frozen? ⟨b, 2, none⟩ = false ∧ w.frozen? ⟨b, 3, none⟩ = false ∧ w.frozen? ⟨b, 4, none⟩ = false ∧ w.frozen? ⟨b, 5, none⟩ = false ∧ w.frozen? ⟨b, 6, none⟩ = false ∧ w.frozen? ⟨b, 7, none⟩ = false :=
  ⟨h.at 0, h.at 1, h.at 2, h.at 3, h.at 4, h.at 5, h.at 6, h.at 7, h.soft 0, h.soft 1, h.soft 2, h.soft 3, h.soft 4, h.soft 5, h.soft 6, h.soft 7⟩
def eightAt (w : World) (b : Nat) (X : St) : World := (((((((w.setCell ⟨b, 0, none⟩ (.int .u32 X.a)).setCell ⟨b, 1, none⟩ (.int .u32 X.b)).setCell ⟨b, 2, none⟩ (.int .u32 X.c)).setCell ⟨b, 3, none⟩ (.int .u32 X.d)).setCell ⟨b, 4, none⟩ (.int .u32 X.e)).setCell ⟨b, 5, none⟩ (.int .u32 X.f)).setCell ⟨b, 6, none⟩ (.int .u32 X.g)).setCell ⟨b, 7, none⟩ (.int .u32 X.h)
theorem eightAt_has {w : World} {b n : Nat} {K : St} {v : Value} (h : Has w b 100 (rsCells K n v)) (X : St) : Has (eightAt w b X) b 100 (rsCells X n v) := by
  have := (((((((h.put 0 (.int .u32 X.a)).put 1 (.int .u32 X.b)).put 2 (.int .u32 X.c)).put 3 (.int .u32 X.d)).put 4 (.int .u32 X.e)).put 5 (.int .u32 X.f)).put 6 (.int .u32 X.g)).put 7 (.int .u32 X.h)
  have e : ((((((((rsCells K n v).setIfInBounds 0 (.int .u32 X.a)).setIfInBounds 1 (.int .u32 X.b)).setIfInBounds 2 (.int .u32 X.c)).setIfInBounds 3 (.int .u32 X.d)).setIfInBounds 4 (.int .u32 X.e)).setIfInBounds 5 (.int .u32 X.f)).setIfInBounds 6 (.int .u32 X.g)).setIfInBounds 7 (.int .u32 X.h) = rsCells X n v := by simp [rsCells]
  rw [e] at this
  exact this
theorem eightAt_only {a w : World} {b : Nat} (h : a.grownBy w (some b)) (X : St) : a.grownBy (eightAt w b X) (some b) := only_cell (only_cell (only_cell (only_cell (only_cell (only_cell (only_cell (only_cell h _) _) _) _) _) _) _) _
/-- A row of the call's own stays while another block, of other cells than bytes, is written. -/
theorem Own.only {w w' : World} {base b : Nat} {v : Value} {n : Nat} {zs : List Int} {t : TypeId} {cs : Array Value} (h : Own w base v n zs) (ho : w.grownBy w' (some b)) (hb : Has w b t cs) (ht : t ≠ 5) : Own w' base v n zs := by
  obtain ⟨⟨h1, h2⟩, h3⟩ := h
  refine ⟨⟨h1, ?_⟩, h3⟩
  rcases h2 with h2 | ⟨g, cap, cur, e1, e2, e3, e4⟩
  · exact .inl h2
  · refine .inr ⟨g, cap, cur, e1, e2, (ho.block g (Array.getElem?_eq_some_iff.1 e3).1 ?_).trans e3, e4⟩
    intro e
    injection e with e
    subst e
    unfold Has at hb
    rw [e3] at hb
    injection hb with hb
    injection hb with _ hb
    exact ht hb.symm
theorem Own.off {w : World} {base b : Nat} {A : Option Addr} {n c : Nat} {zs : List Int} {t : TypeId} {cs : Array Value} (h : Own w base (.slice A n c) n zs) (hb : Has w b t cs) (ht : t ≠ 5) : Off A n b := by
  intro hn x hx
  rcases h.1.2 with ⟨e, rfl⟩ | ⟨g, cap, cur, e1, e2, e3, e4⟩
  · omega
  · cases e1
    cases hx
    show g ≠ b
    intro e
    subst e
    unfold Has at hb
    rw [e3] at hb
    injection hb with hb
    injection hb with _ hb
    exact ht hb.symm
theorem row_none {w : World} {A : Option Addr} {n : Nat} {zs : List Int} (h : Row w A n zs) : A = none → n = 0 := by
  rintro rfl
  rcases h.2.2 with h0 | ⟨_, _, e, _⟩
  · exact h0
  · cases e

theorem only_grown {a w w' : World} {b : Nat} {r : Option Nat} (h : a.grownBy w (some b)) (hg : w.grownBy w' r) (hr : ∀ k, r = some k → a.heap.size ≤ k) : a.grownBy w' (some b) :=
  ⟨hg.os.trans h.os, hg.tape.trans h.tape, hg.output.trans h.output, Nat.le_trans h.size hg.size, fun i hi hn => (hg.block i (Nat.lt_of_lt_of_le hi h.size) (fun e => by have := hr i e.symm; omega)).trans (h.block i hi hn)⟩
theorem Has.grown {w w' : World} {b N : Nat} {t : TypeId} {cs : Array Value} {r : Option Nat} (h : Has w b t cs) (hg : w.grownBy w' r) (hr : ∀ k, r = some k → N ≤ k) (hb : b < N) : Has w' b t cs :=
  (hg.block b h.size (fun e => by have := hr b e.symm; omega)).trans h
def RWrote (b : Nat) (H : St) (n : Nat) (rest zs : List Int) (w : World) (e : Ending) (w' : World) : Prop :=
  e = .returned (.tuple #[]) ∧ ∃ v' : Value, Has w' b 100 (rsCells (run H (rest ++ zs)).1 (n + zs.length) v') ∧ Own w' w.heap.size v' (run H (rest ++ zs)).2.length (run H (rest ++ zs)).2 ∧ w.grownBy w' (some b)
def RLeft (b N : Nat) (vr : Value) (goal : St × List Int) (w : World) (v : Value) (wr : World) : Prop :=
  ∃ (A : Option Addr) (m c : Nat) (rem : List Int) (K : St), v = .slice A m c ∧ m ≤ c ∧ m ≤ 1000000 ∧ Row wr A m rem ∧ Off A m b ∧ K.Ok ∧ run K rem = goal ∧ Has wr b 100 (rsCells K N vr) ∧ w.grownBy wr (some b)
set_option maxRecDepth 100000 in
set_option maxHeartbeats 2000000 in
theorem rwrite_any (b n : Nat) (H : St) (v : Value) (rest : List Int) (a : Option Addr) (m cap : Nat) (zs : List Int) (w : World)
    (hH : H.Ok) (hs : Has w b 100 (rsCells H n v)) (ho : Own w 0 v rest.length rest) (hr : Row w a m zs) (hcap : m ≤ cap) (hoff : Off a m b) (hn : n + m < 1099511627776) (hsm : rest.length + m ≤ 1000000) :
    Calls Tryz.prog 44 #[.pointer (some ⟨b, 0, none⟩), .slice a m cap] w (RWrote b H n rest zs w) := by
  obtain ⟨A0, c0, rfl, hc0, hr0, hk0⟩ := ho.form
  have hoff0 := ho.off hs (by decide)
  have c8 : w.cell? ⟨b, 8, none⟩ = some (.int .u64 (n : Int)) := hs.at 8
  have c9 : w.cell? ⟨b, 9, none⟩ = some (.slice A0 rest.length c0) := hs.at 9
  have f8 := hs.soft 8
  have hs1 := hs.put 8 (.int .u64 ((n : Int) + (m : Int)))
  have e1 : (rsCells H n (.slice A0 rest.length c0)).setIfInBounds 8 (.int .u64 ((n : Int) + (m : Int))) = rsCells H (n + m) (.slice A0 rest.length c0) := by simp [rsCells]
  rw [e1] at hs1
  clear e1
  have hon1 := only_cell (j := 8) (only_refl w (some b)) (.int .u64 ((n : Int) + (m : Int)))
  have hr1 := row_only hr0 hon1 hoff0
  have hr2 := row_only hr hon1 hoff
  have hnil := own_nil (w.setCell ⟨b, 8, none⟩ (.int .u64 ((n : Int) + (m : Int)))) w.heap.size
  have hzs : w.heap.size ≤ (w.setCell ⟨b, 8, none⟩ (.int .u64 ((n : Int) + (m : Int)))).heap.size := hon1.size
  go_enter Tryz.func44, Tryz.ntmps44
  have hbs : b < w.heap.size := hs.size
  go_wp2_with (first
    | (at_builtin; refine wpList_app rfl _ _ rfl w.heap.size _ _ _ rfl ho1 _ _ _ _ rfl hr3 (row_none hr3) (by omega) hon2.size ?_; intro v2 w2 ho2 hg2)
    | (at_builtin; refine wpList_app rfl _ _ rfl w.heap.size _ _ _ rfl hnil _ _ _ _ rfl hr1 (row_none hr1) (by omega) hzs ?_; intro v1 w1 ho1 hg1; rw [Nat.zero_add, List.nil_append] at ho1; have hon2 := only_grown hon1 hg1 hnil.block; have hr3 := row_only hr hon2 hoff))
  have hon3 := only_grown hon2 hg2 ho1.block
  have hs3 := (hs1.grown hg1 hnil.block hbs).grown hg2 ho1.block hbs
  obtain ⟨A2, c2, rfl, hc2, hr2', hk2⟩ := ho2.form
  clear hs1 hon1 hr1 hr2 hnil hzs ho1 hg1 hon2 hr3 ho2 hg2 c8 c9 f8
  go_loopw [4] (fun v wr => RLeft b (n + m) (.slice A0 rest.length c0) (run H (rest ++ zs)) w v wr) (fun v _ => lenV v)
  case atStart => exact ⟨A2, _, c2, rest ++ zs, H, rfl, hc2, by omega, hr2', (fun _ x hx => by have := hk2 x hx; omega), hH, rfl, hs3, hon3⟩
  case round =>
    clear hs3 hon3 hr2' hk2 hc2
    obtain ⟨A, m', c', rem, K, rfl, hmc, hm1, hrr, hoff', hK, hrun, hst, hon⟩ := hrel
    by_cases h64 : 64 ≤ m'
    · obtain ⟨rb, ro, rfl, hrw, _⟩ := row_open hrr (by omega)
      have hrun2 := Lib.hid (run_step K rem (by rw [hrr.1]; exact h64))
      have HR := Lib.hid hrun
      clear hrun
      have hr64 := row_upto hrr 64 h64
      obtain ⟨g1, g2, g3, g4, g5, g6, g7, g8, _, _, _, _, _, _, _, _⟩ := rs_eight hst
      have i64 : (64 : Int) ≤ (m' : Int) := by omega
      have i65 : (64 : Int) ≤ (c' : Int) := by omega
      go_wp2_with fail
      have hfold := block_lit K (foldI K (rem.take 64)) (rem.take 64) rfl rb ro c' wr.drew hK (by omega) (row_below ((Below.refl _ wr).drew) hr64)
      have hXok := foldI_ok K (rem.take 64)
      generalize foldI K (rem.take 64) = X at *
      go_region_with ((go_at_call 69; (refine hfold.mono ?_); rintro e w1 ⟨rfl, H1⟩; have hst1 := Has.kept (w := wr.drew) hst H1; obtain ⟨k1, k2, k3, k4, k5, k6, k7, k8, l1, l2, l3, l4, l5, l6, l7, l8⟩ := rs_eight hst1))
      have hst2 := eightAt_has hst1 X
      have hon2 := eightAt_only (only_below (only_drew hon) H1) X
      have hrr2 := row_only hrr (eightAt_only (only_below (only_drew (only_refl wr (some b))) H1) X) hoff'
      change Exit.then _ _ _ _ (eightAt w1 b X)
      generalize eightAt w1 b X = w2 at *
      clear k1 k2 k3 k4 k5 k6 k7 k8 l1 l2 l3 l4 l5 l6 l7 l8 g1 g2 g3 g4 g5 g6 g7 g8 hst1 H1 hfold
      by_cases hc64 : c' = 64
      · have hm64 : m' = 64 := by omega
        go_wp2
        go_roundw
        case rel => exact ⟨_, _, _, rem.drop 64, X, rfl, by omega, by omega, ⟨by rw [List.length_drop, hrr.1]; omega, byt_drop hrr.2.1 _, .inl rfl⟩, (fun h => absurd h (by omega)), hXok, hrun2.out.symm.trans HR.out, hst2, hon2⟩
        case measure => simp [lenV]; omega
      · have hrr3 := fun h => row_from hrr2 64 h
        go_wp2
        go_roundw
        case rel =>
          by_cases hm64 : m' = 64
          · exact ⟨_, _, _, rem.drop 64, X, rfl, by omega, by omega, ⟨by rw [List.length_drop, hrr.1], byt_drop hrr.2.1 _, .inl (by omega)⟩, (fun _ x hx => by cases hx; exact hoff' (by omega) ⟨rb, ro, none⟩ rfl), hXok, hrun2.out.symm.trans HR.out, hst2, hon2⟩
          · exact ⟨_, _, _, rem.drop 64, X, rfl, by omega, by omega, hrr3 (by omega), (fun _ x hx => by cases hx; exact hoff' (by omega) ⟨rb, ro, none⟩ rfl), hXok, hrun2.out.symm.trans HR.out, hst2, hon2⟩
        case measure => simp [lenV]; omega
    · have hsm := run_small K rem (by rw [hrr.1]; omega)
      have HR := Lib.hid (hsm.symm.trans hrun)
      clear hrun hsm
      have hnil := own_nil wr w.heap.size
      go_wp2_with (at_builtin; refine wpList_app rfl _ _ rfl w.heap.size _ _ _ rfl hnil _ _ _ _ rfl hrr (row_none hrr) (by omega) hon.size ?_; intro v2 w2 ho2 hg2; rw [Nat.zero_add, List.nil_append] at ho2; have hst2 := hst.grown hg2 hnil.block hbs; have q9 : w2.cell? ⟨b, 9, none⟩ = some (.slice A0 rest.length c0) := hst2.at 9; have r9 := hst2.soft 9; obtain ⟨A3, c3, rfl, hc3, hr3, hk3⟩ := ho2.form)
      go_end0
      have e9 : (rsCells K (n + m) (.slice A0 rest.length c0)).setIfInBounds 9 (.slice A3 m' c3) = rsCells K (n + m) (.slice A3 m' c3) := by simp [rsCells]
      refine ⟨rfl, .slice A3 m' c3, ?_, ?_, only_cell (only_grown hon hg2 hnil.block) _⟩
      · rw [← HR.out, hr.1, ← e9]
        exact hst2.put 9 _
      · rw [← HR.out]
        show Own _ _ _ rem.length rem
        rw [hrr.1]
        exact ho2.only (only_cell (j := 9) (only_refl w2 (some b)) _) hst2 (by decide)
end Go.Proofs.YtklhmneapegfpaaGreatDoor.Sha
