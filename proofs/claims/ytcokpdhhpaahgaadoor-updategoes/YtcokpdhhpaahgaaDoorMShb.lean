/-
  Several texts in one: ShaRw, ShaRs, ShaAlive, ShaLaid, ShaPad, ShaTag, ShaRtag, ShaSame; each says its own conditions.
-/
import Derived.Test.YtcokpdhhpaahgaaDoorMSha
import Derived.Lib.SlBytesConst
import Derived.Test.YtcokpdhhpaahgaaDoorTie
import Derived.ProofKit
import Derived.LaidMore
import Derived.Lay
import Derived.OpenShut
import Derived.Stop.Joined
import Derived.Stop.LaidErr
import Derived.Lib.LaidTab
import Derived.ChangeKeysEq
import Derived.ShutString
import Derived.ChangeOld
import Derived.Carry
import Derived.StillTailTactics
namespace Go.Proofs.YtcokpdhhpaahgaaDoor.Sha
open Go.RowKit
set_option linter.unusedVariables false
set_option linter.unusedSimpArgs false

/-- The cells of the document's stream: its words, its count, its rest (a slice). -/
def rsCells (H : St) (n : Nat) (v : Value) : Array Value := #[.int .u32 H.a, .int .u32 H.b, .int .u32 H.c, .int .u32 H.d, .int .u32 H.e, .int .u32 H.f, .int .u32 H.g, .int .u32 H.h, .int .u64 (n : Int), v]
def RMade (w : World) (e : Ending) (w' : World) : Prop := ∃ b, e = .returned (.pointer (some ⟨b, 0, none⟩)) ∧ w.heap.size ≤ b ∧ Has w' b 110 (rsCells st0 0 (.slice none 0 0)) ∧ Below w.heap.size w w'
set_option maxRecDepth 100000 in
theorem rfirst_any (w : World) : Calls Tryd.prog 82 #[] w fun e w' => e = .returned (.agg (stCells st0)) ∧ Below w.heap.size w w' := by
  go_enter Tryd.func82, Tryd.ntmps82
  go_wp2
  exact bodyPost_ret (results_cell_row rfl _ _ w.heap.size 107 (stCells st0) (0, 0) _ rfl (has_new w 107 (stCells st0)) Tryd.underlying107 rfl size45) rfl ⟨rfl, (Below.refl _ _).alloc (Nat.le_refl _) _⟩
theorem built53 : Tryd.prog.built 110 [(0, .agg (stCells st0))] = some (rsCells st0 0 (.slice none 0 0)) := by kernel_rfl
set_option maxRecDepth 100000 in
theorem rnew_any (w : World) : Calls Tryd.prog 71 #[] w (RMade w) := by
  go_enter Tryd.func71, Tryd.ntmps71
  go_wp2_with fail
  refine (rfirst_any _).mono ?_
  rintro e w1 ⟨rfl, H1⟩
  go_wp2_with (refine wpList_build_to rfl 110 _ rfl _ built53 ?_)
  go_ret
  exact ⟨_, rfl, H1.size, has_new w1 110 _, H1.alloc H1.size _⟩

theorem block_lit (s X : St) (zs : List Int) (hX : X = foldI s zs) (b off cap : Nat) (w : World) (hs : s.Ok) (hcap : 64 ≤ cap) (hr : Row w (some ⟨b, off, none⟩) 64 zs) :
    Calls Tryd.prog 83 #[.agg #[.int .u32 s.a, .int .u32 s.b, .int .u32 s.c, .int .u32 s.d, .int .u32 s.e, .int .u32 s.f, .int .u32 s.g, .int .u32 s.h], .slice (some ⟨b, off, none⟩) 64 cap] w fun e w' =>
      e = .returned (.agg #[.int .u32 X.a, .int .u32 X.b, .int .u32 X.c, .int .u32 X.d, .int .u32 X.e, .int .u32 X.f, .int .u32 X.g, .int .u32 X.h]) ∧ Below w.heap.size w w' := by
  subst hX
  exact block_any s b off cap zs w hs hcap hr
theorem rs_eight {w : World} {b : Nat} {K : St} {n : Nat} {v : Value} (h : Has w b 110 (rsCells K n v)) :
    w.cell? ⟨b, 0, none⟩ = some (.int .u32 K.a) ∧ w.cell? ⟨b, 1, none⟩ = some (.int .u32 K.b) ∧ w.cell? ⟨b, 2, none⟩ = some (.int .u32 K.c) ∧ w.cell? ⟨b, 3, none⟩ = some (.int .u32 K.d) ∧
    w.cell? ⟨b, 4, none⟩ = some (.int .u32 K.e) ∧ w.cell? ⟨b, 5, none⟩ = some (.int .u32 K.f) ∧ w.cell? ⟨b, 6, none⟩ = some (.int .u32 K.g) ∧ w.cell? ⟨b, 7, none⟩ = some (.int .u32 K.h) ∧
    w.frozen? ⟨b, 0, none⟩ = false ∧ w.frozen? ⟨b, 1, none⟩ = false ∧ w.frozen? ⟨b, 2, none⟩ = false ∧ w.frozen? ⟨b, 3, none⟩ = false ∧ w.frozen? ⟨b, 4, none⟩ = false ∧ w.frozen? ⟨b, 5, none⟩ = false ∧ w.frozen? ⟨b, 6, none⟩ = false ∧ w.frozen? ⟨b, 7, none⟩ = false :=
  ⟨h.at 0, h.at 1, h.at 2, h.at 3, h.at 4, h.at 5, h.at 6, h.at 7, h.soft 0, h.soft 1, h.soft 2, h.soft 3, h.soft 4, h.soft 5, h.soft 6, h.soft 7⟩
def eightAt (w : World) (b : Nat) (X : St) : World := (((((((w.setCell ⟨b, 0, none⟩ (.int .u32 X.a)).setCell ⟨b, 1, none⟩ (.int .u32 X.b)).setCell ⟨b, 2, none⟩ (.int .u32 X.c)).setCell ⟨b, 3, none⟩ (.int .u32 X.d)).setCell ⟨b, 4, none⟩ (.int .u32 X.e)).setCell ⟨b, 5, none⟩ (.int .u32 X.f)).setCell ⟨b, 6, none⟩ (.int .u32 X.g)).setCell ⟨b, 7, none⟩ (.int .u32 X.h)
theorem eightAt_has {w : World} {b n : Nat} {K : St} {v : Value} (h : Has w b 110 (rsCells K n v)) (X : St) : Has (eightAt w b X) b 110 (rsCells X n v) := by
  have := (((((((h.put 0 (.int .u32 X.a)).put 1 (.int .u32 X.b)).put 2 (.int .u32 X.c)).put 3 (.int .u32 X.d)).put 4 (.int .u32 X.e)).put 5 (.int .u32 X.f)).put 6 (.int .u32 X.g)).put 7 (.int .u32 X.h)
  have e : ((((((((rsCells K n v).setIfInBounds 0 (.int .u32 X.a)).setIfInBounds 1 (.int .u32 X.b)).setIfInBounds 2 (.int .u32 X.c)).setIfInBounds 3 (.int .u32 X.d)).setIfInBounds 4 (.int .u32 X.e)).setIfInBounds 5 (.int .u32 X.f)).setIfInBounds 6 (.int .u32 X.g)).setIfInBounds 7 (.int .u32 X.h) = rsCells X n v := by simp [rsCells]
  rw [e] at this
  exact this
theorem eightAt_only {a w : World} {b : Nat} (h : a.grownBy w (some b)) (X : St) : a.grownBy (eightAt w b X) (some b) := only_cell (only_cell (only_cell (only_cell (only_cell (only_cell (only_cell (only_cell h _) _) _) _) _) _) _) _
/-- A row of the call's own stays while another block, of other cells than bytes, is written. -/
theorem Own.only {w w' : World} {base b : Nat} {v : Value} {n : Nat} {zs : List Int} {t : TypeId} {cs : Array Value} (h : Own w base v n zs) (ho : w.grownBy w' (some b)) (hb : Has w b t cs) (ht : t ≠ 5) : Own w' base v n zs := by
  obtain ⟨⟨h1, h2⟩, h3⟩ := h
  refine ⟨⟨h1, ?_⟩, h3⟩
  rcases h2 with h2 | ⟨g, cap, cur, e1, e2, e3, e4⟩
  · exact .inl h2
  · refine .inr ⟨g, cap, cur, e1, e2, (ho.block g (Array.getElem?_eq_some_iff.1 e3).1 ?_).trans e3, e4⟩
    intro e
    injection e with e
    subst e
    unfold Has at hb
    rw [e3] at hb
    injection hb with hb
    injection hb with _ hb
    exact ht hb.symm
theorem Own.off {w : World} {base b : Nat} {A : Option Addr} {n c : Nat} {zs : List Int} {t : TypeId} {cs : Array Value} (h : Own w base (.slice A n c) n zs) (hb : Has w b t cs) (ht : t ≠ 5) : Off A n b := by
  intro hn x hx
  rcases h.1.2 with ⟨e, rfl⟩ | ⟨g, cap, cur, e1, e2, e3, e4⟩
  · omega
  · cases e1
    cases hx
    show g ≠ b
    intro e
    subst e
    unfold Has at hb
    rw [e3] at hb
    injection hb with hb
    injection hb with _ hb
    exact ht hb.symm
theorem row_none {w : World} {A : Option Addr} {n : Nat} {zs : List Int} (h : Row w A n zs) : A = none → n = 0 := by
  rintro rfl
  rcases h.2.2 with h0 | ⟨_, _, e, _⟩
  · exact h0
  · cases e

theorem only_grown {a w w' : World} {b : Nat} {r : Option Nat} (h : a.grownBy w (some b)) (hg : w.grownBy w' r) (hr : ∀ k, r = some k → a.heap.size ≤ k) : a.grownBy w' (some b) :=
  ⟨hg.os.trans h.os, hg.tape.trans h.tape, hg.output.trans h.output, Nat.le_trans h.size hg.size, fun i hi hn => (hg.block i (Nat.lt_of_lt_of_le hi h.size) (fun e => by have := hr i e.symm; omega)).trans (h.block i hi hn)⟩
theorem Has.grown {w w' : World} {b N : Nat} {t : TypeId} {cs : Array Value} {r : Option Nat} (h : Has w b t cs) (hg : w.grownBy w' r) (hr : ∀ k, r = some k → N ≤ k) (hb : b < N) : Has w' b t cs :=
  (hg.block b h.size (fun e => by have := hr b e.symm; omega)).trans h
def RWrote (b : Nat) (H : St) (n : Nat) (rest zs : List Int) (w : World) (e : Ending) (w' : World) : Prop :=
  e = .returned (.tuple #[]) ∧ ∃ v' : Value, Has w' b 110 (rsCells (run H (rest ++ zs)).1 (n + zs.length) v') ∧ Own w' w.heap.size v' (run H (rest ++ zs)).2.length (run H (rest ++ zs)).2 ∧ w.grownBy w' (some b)
def RLeft (b N : Nat) (vr : Value) (goal : St × List Int) (w : World) (v : Value) (wr : World) : Prop :=
  ∃ (A : Option Addr) (m c : Nat) (rem : List Int) (K : St), v = .slice A m c ∧ m ≤ c ∧ m ≤ 1000000 ∧ Row wr A m rem ∧ Off A m b ∧ K.Ok ∧ run K rem = goal ∧ Has wr b 110 (rsCells K N vr) ∧ w.grownBy wr (some b)
set_option maxRecDepth 100000 in
set_option maxHeartbeats 2000000 in
theorem rwrite_any (b n : Nat) (H : St) (v : Value) (rest : List Int) (a : Option Addr) (m cap : Nat) (zs : List Int) (w : World)
    (hH : H.Ok) (hs : Has w b 110 (rsCells H n v)) (ho : Own w 0 v rest.length rest) (hr : Row w a m zs) (hcap : m ≤ cap) (hoff : Off a m b) (hn : n + m < 1099511627776) (hsm : rest.length + m ≤ 1000000) :
    Calls Tryd.prog 72 #[.pointer (some ⟨b, 0, none⟩), .slice a m cap] w (RWrote b H n rest zs w) := by
  obtain ⟨A0, c0, rfl, hc0, hr0, hk0⟩ := ho.form
  have hoff0 := ho.off hs (by decide)
  have c8 : w.cell? ⟨b, 8, none⟩ = some (.int .u64 (n : Int)) := hs.at 8
  have c9 : w.cell? ⟨b, 9, none⟩ = some (.slice A0 rest.length c0) := hs.at 9
  have f8 := hs.soft 8
  have hs1 := hs.put 8 (.int .u64 ((n : Int) + (m : Int)))
  have e1 : (rsCells H n (.slice A0 rest.length c0)).setIfInBounds 8 (.int .u64 ((n : Int) + (m : Int))) = rsCells H (n + m) (.slice A0 rest.length c0) := by simp [rsCells]
  rw [e1] at hs1
  clear e1
  have hon1 := only_cell (j := 8) (only_refl w (some b)) (.int .u64 ((n : Int) + (m : Int)))
  have hr1 := row_only hr0 hon1 hoff0
  have hr2 := row_only hr hon1 hoff
  have hnil := own_nil (w.setCell ⟨b, 8, none⟩ (.int .u64 ((n : Int) + (m : Int)))) w.heap.size
  have hzs : w.heap.size ≤ (w.setCell ⟨b, 8, none⟩ (.int .u64 ((n : Int) + (m : Int)))).heap.size := hon1.size
  go_enter Tryd.func72, Tryd.ntmps72
  have hbs : b < w.heap.size := hs.size
  go_wp2_with (first
    | (at_builtin; refine wpList_app rfl _ _ rfl w.heap.size _ _ _ rfl ho1 _ _ _ _ rfl hr3 (row_none hr3) (by omega) hon2.size ?_; intro v2 w2 ho2 hg2)
    | (at_builtin; refine wpList_app rfl _ _ rfl w.heap.size _ _ _ rfl hnil _ _ _ _ rfl hr1 (row_none hr1) (by omega) hzs ?_; intro v1 w1 ho1 hg1; rw [Nat.zero_add, List.nil_append] at ho1; have hon2 := only_grown hon1 hg1 hnil.block; have hr3 := row_only hr hon2 hoff))
  have hon3 := only_grown hon2 hg2 ho1.block
  have hs3 := (hs1.grown hg1 hnil.block hbs).grown hg2 ho1.block hbs
  obtain ⟨A2, c2, rfl, hc2, hr2', hk2⟩ := ho2.form
  clear hs1 hon1 hr1 hr2 hnil hzs ho1 hg1 hon2 hr3 ho2 hg2 c8 c9 f8
  go_loopw [4] (fun v wr => RLeft b (n + m) (.slice A0 rest.length c0) (run H (rest ++ zs)) w v wr) (fun v _ => lenV v)
  case atStart => exact ⟨A2, _, c2, rest ++ zs, H, rfl, hc2, by omega, hr2', (fun _ x hx => by have := hk2 x hx; omega), hH, rfl, hs3, hon3⟩
  case round =>
    clear hs3 hon3 hr2' hk2 hc2
    obtain ⟨A, m', c', rem, K, rfl, hmc, hm1, hrr, hoff', hK, hrun, hst, hon⟩ := hrel
    by_cases h64 : 64 ≤ m'
    · obtain ⟨rb, ro, rfl, hrw, _⟩ := row_open hrr (by omega)
      have hrun2 := Lib.hid (run_step K rem (by rw [hrr.1]; exact h64))
      have HR := Lib.hid hrun
      clear hrun
      have hr64 := row_upto hrr 64 h64
      obtain ⟨g1, g2, g3, g4, g5, g6, g7, g8, _, _, _, _, _, _, _, _⟩ := rs_eight hst
      have i64 : (64 : Int) ≤ (m' : Int) := by omega
      have i65 : (64 : Int) ≤ (c' : Int) := by omega
      go_wp2_with fail
      have hfold := block_lit K (foldI K (rem.take 64)) (rem.take 64) rfl rb ro c' wr.drew hK (by omega) (row_below ((Below.refl _ wr).drew) hr64)
      have hXok := foldI_ok K (rem.take 64)
      generalize foldI K (rem.take 64) = X at *
      go_region_with ((go_at_call 83; (refine hfold.mono ?_); rintro e w1 ⟨rfl, H1⟩; have hst1 := Has.kept (w := wr.drew) hst H1; obtain ⟨k1, k2, k3, k4, k5, k6, k7, k8, l1, l2, l3, l4, l5, l6, l7, l8⟩ := rs_eight hst1))
      have hst2 := eightAt_has hst1 X
      have hon2 := eightAt_only (only_below (only_drew hon) H1) X
      have hrr2 := row_only hrr (eightAt_only (only_below (only_drew (only_refl wr (some b))) H1) X) hoff'
      change Exit.then _ _ _ _ (eightAt w1 b X)
      generalize eightAt w1 b X = w2 at *
      clear k1 k2 k3 k4 k5 k6 k7 k8 l1 l2 l3 l4 l5 l6 l7 l8 g1 g2 g3 g4 g5 g6 g7 g8 hst1 H1 hfold
      by_cases hc64 : c' = 64
      · have hm64 : m' = 64 := by omega
        go_wp2
        go_roundw
        case rel => exact ⟨_, _, _, rem.drop 64, X, rfl, by omega, by omega, ⟨by rw [List.length_drop, hrr.1]; omega, byt_drop hrr.2.1 _, .inl rfl⟩, (fun h => absurd h (by omega)), hXok, hrun2.out.symm.trans HR.out, hst2, hon2⟩
        case measure => simp [lenV]; omega
      · have hrr3 := fun h => row_from hrr2 64 h
        go_wp2
        go_roundw
        case rel =>
          by_cases hm64 : m' = 64
          · exact ⟨_, _, _, rem.drop 64, X, rfl, by omega, by omega, ⟨by rw [List.length_drop, hrr.1], byt_drop hrr.2.1 _, .inl (by omega)⟩, (fun _ x hx => by cases hx; exact hoff' (by omega) ⟨rb, ro, none⟩ rfl), hXok, hrun2.out.symm.trans HR.out, hst2, hon2⟩
          · exact ⟨_, _, _, rem.drop 64, X, rfl, by omega, by omega, hrr3 (by omega), (fun _ x hx => by cases hx; exact hoff' (by omega) ⟨rb, ro, none⟩ rfl), hXok, hrun2.out.symm.trans HR.out, hst2, hon2⟩
        case measure => simp [lenV]; omega
    · have hsm := run_small K rem (by rw [hrr.1]; omega)
      have HR := Lib.hid (hsm.symm.trans hrun)
      clear hrun hsm
      have hnil := own_nil wr w.heap.size
      go_wp2_with (at_builtin; refine wpList_app rfl _ _ rfl w.heap.size _ _ _ rfl hnil _ _ _ _ rfl hrr (row_none hrr) (by omega) hon.size ?_; intro v2 w2 ho2 hg2; rw [Nat.zero_add, List.nil_append] at ho2; have hst2 := hst.grown hg2 hnil.block hbs; have q9 : w2.cell? ⟨b, 9, none⟩ = some (.slice A0 rest.length c0) := hst2.at 9; have r9 := hst2.soft 9; obtain ⟨A3, c3, rfl, hc3, hr3, hk3⟩ := ho2.form)
      go_end0
      have e9 : (rsCells K (n + m) (.slice A0 rest.length c0)).setIfInBounds 9 (.slice A3 m' c3) = rsCells K (n + m) (.slice A3 m' c3) := by simp [rsCells]
      refine ⟨rfl, .slice A3 m' c3, ?_, ?_, only_cell (only_grown hon hg2 hnil.block) _⟩
      · rw [← HR.out, hr.1, ← e9]
        exact hst2.put 9 _
      · rw [← HR.out]
        show Own _ _ _ rem.length rem
        rw [hrr.1]
        exact ho2.only (only_cell (j := 9) (only_refl w2 (some b)) _) hst2 (by decide)
end Go.Proofs.YtcokpdhhpaahgaaDoor.Sha

namespace Go.Proofs.YtcokpdhhpaahgaaDoor.Sha
open Go.RowKit
set_option linter.unusedVariables false
set_option linter.unusedSimpArgs false

def Pads (n : Nat) (rest : List Int) (w : World) (v : Value) (wr : World) : Prop :=
  ∃ j L : Nat, j ≤ zerosOf n ∧ L = rest.length + 1 + j ∧ Own wr (w.heap.size + 1) v L (rest ++ 128 :: List.replicate j 0) ∧ Below w.heap.size w wr ∧ Has wr w.heap.size 22 zero24
theorem own_one (w : World) (x : Int) (hx : 0 ≤ x ∧ x ≤ 255) : Row (w.alloc (.cells #[.int .u8 x] 5)) (some ⟨w.heap.size, 0, none⟩) 1 [x] := by
  refine row_mk rfl (fun n hn => by simp at hn; omega) (by simp) (fun j hj => ?_)
  obtain rfl : j = 0 := by omega
  simp
theorem rep_snoc (rest : List Int) (j : Nat) : rest ++ 128 :: List.replicate j 0 ++ [0] = rest ++ 128 :: List.replicate (j + 1) (0 : Int) := by
  rw [List.append_assoc, List.cons_append, ← List.replicate_succ']
theorem below_own {B base : Nat} {w0 w w' : World} {v : Value} {n : Nat} {zs : List Int} (h : Below B w0 w) (ho : Own w base v n zs) (hg : w.grownBy w' v.ownBlock) (hB : B ≤ base) (hs : B ≤ w.heap.size) : Below B w0 w' :=
  h.grown hg hs (fun k hk => Nat.le_trans hB (ho.block k hk))

def RB (hb : Nat) (goal : St × List Int) (w : World) (v : Value) (wr : World) : Prop :=
  ∃ (A : Option Addr) (m c : Nat) (rem : List Int) (K : St), v = .slice A m c ∧ m ≤ c ∧ m ≤ 1000000 ∧ m % 64 = 0 ∧ Row wr A m rem ∧ Off A m hb ∧ K.Ok ∧ run K rem = goal ∧ Has wr hb 107 (stCells K) ∧ Has wr w.heap.size 22 zero24 ∧ Below w.heap.size w wr
theorem st_eight {w : World} {b : Nat} {K : St} (h : Has w b 107 (stCells K)) :
    w.cell? ⟨b, 0, none⟩ = some (.int .u32 K.a) ∧ w.cell? ⟨b, 1, none⟩ = some (.int .u32 K.b) ∧ w.cell? ⟨b, 2, none⟩ = some (.int .u32 K.c) ∧ w.cell? ⟨b, 3, none⟩ = some (.int .u32 K.d) ∧
    w.cell? ⟨b, 4, none⟩ = some (.int .u32 K.e) ∧ w.cell? ⟨b, 5, none⟩ = some (.int .u32 K.f) ∧ w.cell? ⟨b, 6, none⟩ = some (.int .u32 K.g) ∧ w.cell? ⟨b, 7, none⟩ = some (.int .u32 K.h) :=
  ⟨h.at 0, h.at 1, h.at 2, h.at 3, h.at 4, h.at 5, h.at 6, h.at 7⟩

def outCells (K : St) (k : Nat) : Array Value := (nums (wUp K k ++ List.replicate (32 - 4 * k) 0)).toArray
theorem wUp_len (K : St) : ∀ k, (wUp K k).length = 4 * k
  | 0 => rfl
  | k + 1 => by rw [wUp, List.length_append, wUp_len K k, len4]; omega
theorem out_size (K : St) (k : Nat) (h : k ≤ 8) : (outCells K k).size = 32 := by
  rw [outCells, List.size_toArray, nums_len, List.length_append, wUp_len, List.length_replicate]; omega
theorem out_start (K : St) : outCells K 0 = zero24 := rfl
theorem out_end (K : St) : outCells K 8 = (nums (bytes32 K)).toArray := by simp [outCells, wUp_all]
theorem out_next (K : St) (k : Nat) (h : k < 8) : ((outCells K k).toList.take (4 * k) ++ (nums ((bytes4 (K.get k)).take 4) ++ (outCells K k).toList.drop (4 * k + 4))).toArray = outCells K (k + 1) := by
  have e1 : (outCells K k).toList.take (4 * k) = nums (wUp K k) := by
    rw [outCells, ← nums_app]
    exact List.take_left' (by rw [nums_len, wUp_len])
  have e2 : (outCells K k).toList.drop (4 * k + 4) = nums (List.replicate (32 - 4 * (k + 1)) 0) := by
    rw [outCells, ← nums_app]
    show (nums (wUp K k) ++ nums (List.replicate (32 - 4 * k) 0)).drop (4 * k + 4) = _
    rw [List.drop_append, List.drop_of_length_le (by rw [nums_len, wUp_len]; omega), nums_len, wUp_len, List.nil_append]
    unfold nums
    rw [← List.map_drop, List.drop_replicate]
    congr 2
    omega
  rw [e1, e2, nums_app, nums_app, List.take_of_length_le (by rw [len4]; omega), ← List.append_assoc]
  rfl
def RO (g hb : Nat) (K : St) (w : World) (i : Value) (wr : World) : Prop :=
  ∃ k : Nat, k ≤ 8 ∧ i = .int .i64 k ∧ Has wr g 22 (outCells K k) ∧ Has wr hb 107 (stCells K) ∧ Has wr w.heap.size 22 zero24 ∧ Below w.heap.size w wr

set_option maxRecDepth 100000 in
set_option maxHeartbeats 2000000 in
theorem rsum_any (b n : Nat) (H : St) (v : Value) (rest : List Int) (w : World) (hH : H.Ok) (hs : Has w b 110 (rsCells H n v)) (ho : Own w 0 v rest.length rest) (hl : rest.length = n % 64) (hn : n < 1099511627776) :
    Calls Tryd.prog 73 #[.pointer (some ⟨b, 0, none⟩)] w fun e w' => e = .returned (.agg (nums (sumI H n rest)).toArray) ∧ Below w.heap.size w w' := by
  have hz2 := zero24_run
  have HLR := Lib.hid hl
  have hl64 : rest.length < 64 := by omega
  clear hl
  obtain ⟨A0, c0, rfl, hc0, hr0, hk0⟩ := ho.form
  have hbs : b < w.heap.size := hs.size
  have c9 : w.cell? ⟨b, 9, none⟩ = some (.slice A0 rest.length c0) := hs.at 9
  have hbA : Below w.heap.size w (w.alloc (.cells zero24 22)) := (Below.refl _ _).alloc (Nat.le_refl _) _
  have hr1 := row_below hbA hr0
  have hnil := own_nil (w.alloc (.cells zero24 22)) (w.heap.size + 1)
  have hsz : w.heap.size + 1 ≤ (w.alloc (.cells zero24 22)).heap.size := by simp
  have hN := has_new w 22 zero24
  go_enter Tryd.func73, Tryd.ntmps73
  go_wp2_with (first
    | (at_builtin; refine wpList_app rfl _ _ rfl (w.heap.size + 1) _ _ _ rfl ho2 _ _ _ _ rfl hr2 (fun h => by cases h) (by omega) hsz2 ?_; intro v2 w2 ho3 hg2)
    | (at_builtin; refine wpList_app rfl _ _ rfl (w.heap.size + 1) _ _ _ rfl hnil _ _ _ _ rfl hr1 (row_none hr1) (by omega) hsz ?_; intro v1 w1 ho1 hg1; rw [Nat.zero_add, List.nil_append] at ho1; have ho2 := ho1.kept ((Below.refl _ w1).alloc (Nat.le_refl _) (.cells #[.int .u8 128] 5)); have hr2 := own_one w1 128 (by omega); have hsz2 : w.heap.size + 1 ≤ (w1.alloc (.cells #[.int .u8 128] 5)).heap.size := by (have := hg1.size; simp at this ⊢; omega)))
  have hb1 := below_own hbA hnil hg1 (by omega) hbA.size
  have hbB := hb1.alloc hb1.size (.cells #[.int .u8 128] 5)
  have hb2 := below_own hbB ho2 hg2 (by omega) hbB.size
  have hN2 : Has w2 w.heap.size 22 zero24 := ((hN.grown hg1 hnil.block (by omega)).more _).grown hg2 ho2.block (by omega)
  have hp0 : Pads n rest w v2 w2 := ⟨0, rest.length + 1, by omega, rfl, ho3, hb2, hN2⟩
  clear ho1 ho2 ho3 hr2 hsz2 hg1 hg2 hb1 hbB hb2 hN2 hN hnil hsz hr1 hbA
  go_loopw [3] (fun v wr => Pads n rest w v wr) (fun v _ => 200 - lenV v)
  case atStart => exact hp0
  case round =>
    clear hp0
    obtain ⟨j, L, hj, hL, hoL, hbL, hNL⟩ := hrel
    obtain ⟨A, c, rfl, hc, hrL, hkL⟩ := hoL.form
    have hzl := zeros_lt n
    have HLL := Lib.hid hL
    have hL2 : L ≤ 130 := by omega
    clear hL
    by_cases hmod : L % 64 = 56
    · have HM := Lib.hid hmod
      have hb1 : (((L % 64 : Nat) : Int) != 56) = false := by simp; omega
      have hb2 : ((L : Int) % 64 != 56) = false := by simp; omega
      have hjz : j = zerosOf n := by
        have e1 := HLL.out
        have e2 := HLR.out
        unfold zerosOf at *
        omega
      subst hjz
      clear hmod
      have hoP : Own wr (w.heap.size + 1) (.slice A L c) L (rest ++ padI n) := hoL
      have hsL : Has wr b 110 (rsCells H n (.slice A0 rest.length c0)) := hs.below hbL hbs
      have q8 : wr.cell? ⟨b, 8, none⟩ = some (.int .u64 (n : Int)) := hsL.at 8
      go_wp2_with fail
      refine (eight_any ((n : Int) * 8) _ (by unfold U64; omega)).mono ?_
      rintro e w5 ⟨v5, rfl, ho5, hb5⟩
      obtain ⟨A5, c5, rfl, hc5, hr5, hk5⟩ := ho5.form
      have hoQ := hoP.kept hb5
      have hbQ := hbL.trans (hb5.mono hbL.size)
      have hsQ := hsL.kept hb5
      have hNQ := hNL.kept hb5
      have hszQ : w.heap.size + 1 ≤ w5.heap.size := by have := hNQ.size; omega
      clear q8 hoL hrL hkL hoP hsL hNL hbL hc c9
      go_wp2_with (at_builtin; refine wpList_app rfl _ _ rfl (w.heap.size + 1) _ _ _ rfl hoQ _ _ _ _ rfl hr5 (row_none hr5) (by omega) hszQ ?_; intro v6 w6 ho6 hg6; have hb6 := below_own hbQ hoQ hg6 (by omega) hbQ.size; have hs6 : Has w6 b 110 (rsCells H n (.slice A0 rest.length c0)) := hsQ.grown hg6 hoQ.block (by omega); have hN6 := hNQ.grown hg6 hoQ.block (by omega); obtain ⟨g1, g2, g3, g4, g5, g6, g7, g8, _, _, _, _, _, _, _, _⟩ := rs_eight hs6)
      clear g1 g2 g3 g4 g5 g6 g7 g8
      obtain ⟨A6, c6, rfl, hc6, hr6, hk6⟩ := ho6.form
      have hgl := Lib.hid (show run H (rest ++ padI n ++ bytes8 ((n : Int) * 8)) = run H (rest ++ lastI n) by
        rw [lastI, List.append_assoc, show ((8 * n % 18446744073709551616 : Nat) : Int) = (n : Int) * 8 by omega])
      have hm64 : (L + 8) % 64 = 0 := by have := HM.out; omega
      have hrb : RB w6.heap.size (run H (rest ++ lastI n)) w (.slice A6 (L + 8) c6) (w6.alloc (.cells (stCells H) 107)) :=
        ⟨A6, L + 8, c6, _, H, rfl, hc6, by omega, hm64, row_below ((Below.refl _ w6).alloc (Nat.le_refl _) _) hr6, row_off hr6 (Nat.le_refl _), hH, hgl.out, has_new w6 107 _, hN6.more _, hb6.alloc hb6.size _⟩
      have hHB : w.heap.size < w6.heap.size := hN6.size
      have HM64 := Lib.hid hm64
      clear hm64 ho6 hg6 hb6 hs6 hN6 hr6 hk6 hc6 hoQ hbQ hsQ hNQ hszQ ho5 hb5 hr5 hk5 hc5 hgl
      go_loopw [3] (fun v wr => RB w6.heap.size (run H (rest ++ lastI n)) w v wr) (fun v _ => lenV v)
      case atStart => exact hrb
      case round =>
        clear hrb
        obtain ⟨A, m', c', rem, K, rfl, hmc, hm1, hm64, hrr, hoff', hK, hrun, hst, hNr, hbr⟩ := hrel
        have HM6 := Lib.hid hm64
        by_cases h64 : 0 < m'
        · have h64' : 64 ≤ m' := by omega
          clear hm64
          obtain ⟨rb, ro, rfl, hrw, _⟩ := row_open hrr (by omega)
          have hrun2 := Lib.hid (run_step K rem (by rw [hrr.1]; exact h64'))
          have HR := Lib.hid hrun
          clear hrun
          have hr64 := row_upto hrr 64 h64'
          obtain ⟨g1, g2, g3, g4, g5, g6, g7, g8⟩ := st_eight hst
          have i64 : (64 : Int) ≤ (m' : Int) := by omega
          have i65 : (64 : Int) ≤ (c' : Int) := by omega
          have i0 : (0 : Int) < (m' : Int) := by omega
          go_wp2_with fail
          have hfold := block_lit K (foldI K (rem.take 64)) (rem.take 64) rfl rb ro c' wr.drew hK (by omega) (row_below ((Below.refl _ wr).drew) hr64)
          have hXok := foldI_ok K (rem.take 64)
          generalize foldI K (rem.take 64) = X at *
          refine wp_region_still_tail 3 (by kernel_rfl) (by kernel_rfl) ?_
          simp only [World.drew_eq]
          simp only [List.take_succ_cons, List.take_zero, List.drop_succ_cons, List.drop_zero]
          repeat still_step
          refine wpStill_nil ?_
          go_wp2_with fail
          refine hfold.mono ?_
          rintro e w1 ⟨rfl, H1⟩
          have hst1 : Has w1 w6.heap.size 107 (stCells K) := Has.kept (w := wr.drew) hst H1
          have hst2 := setRow_heap _ _ _ (stCells X) _ _ hst1
          have hN2 : Has (w1.setRow w6.heap.size (stCells X)) w.heap.size 22 zero24 := (setRow_other w1 _ _ _ (by omega)).trans (Has.kept (w := wr.drew) hNr H1)
          have hb2 := below_setRow (hbr.drew.trans (H1.mono hbr.size)) (show w.heap.size ≤ w6.heap.size by omega) (stCells X)
          have hrr2 := row_only hrr (only_row (only_below (only_drew (only_refl wr (some w6.heap.size))) H1) (stCells X)) hoff'
          clear g1 g2 g3 g4 g5 g6 g7 g8 hfold
          by_cases hc64 : c' = 64
          · have hm64 : m' = 64 := by omega
            go_wp2_with (refine wpList_store_row rfl 107 _ _ rfl w6.heap.size (stCells X) rfl rfl 107 _ hst1 size45 rfl (st_all _) ?_)
            go_roundw
            case rel => exact ⟨_, _, _, rem.drop 64, X, rfl, by omega, by omega, by omega, ⟨by rw [List.length_drop, hrr.1]; omega, byt_drop hrr.2.1 _, .inl rfl⟩, (fun h => absurd h (by omega)), hXok, hrun2.out.symm.trans HR.out, hst2, hN2, hb2⟩
            case measure => simp [lenV]; omega
          · have hrr3 := fun h => row_from hrr2 64 h
            go_wp2_with (refine wpList_store_row rfl 107 _ _ rfl w6.heap.size (stCells X) rfl rfl 107 _ hst1 size45 rfl (st_all _) ?_)
            go_roundw
            case rel =>
              have := HM6.out
              by_cases hm64 : m' = 64
              · exact ⟨_, _, _, rem.drop 64, X, rfl, by omega, by omega, by omega, ⟨by rw [List.length_drop, hrr.1], byt_drop hrr.2.1 _, .inl (by omega)⟩, (fun _ x hx => by cases hx; exact hoff' (by omega) ⟨rb, ro, none⟩ rfl), hXok, hrun2.out.symm.trans HR.out, hst2, hN2, hb2⟩
              · exact ⟨_, _, _, rem.drop 64, X, rfl, by omega, by omega, by omega, hrr3 (by omega), (fun _ x hx => by cases hx; exact hoff' (by omega) ⟨rb, ro, none⟩ rfl), hXok, hrun2.out.symm.trans HR.out, hst2, hN2, hb2⟩
            case measure => simp [lenV]; omega
        · obtain rfl : m' = 0 := by omega
          have hrem : rem = [] := List.eq_nil_of_length_eq_zero hrr.1
          subst hrem
          have HG := Lib.hid (show (K, ([] : List Int)) = run H (rest ++ lastI n) from hrun)
          clear hrun hm64 HM6
          have hsum := Lib.hid (show sumI H n rest = bytes32 K by unfold sumI; rw [← HG.out])
          obtain ⟨wa, rfl⟩ : ∃ x, x = wr := ⟨_, rfl⟩
          have hg0 := has_new wa 22 zero24
          have hlt2 : w6.heap.size < wa.heap.size := hst.size
          have hro : RO wa.heap.size w6.heap.size K w (.int .i64 0) (wa.alloc (.cells zero24 22)) := ⟨0, by omega, rfl, by rw [out_start]; exact hg0, hst.more _, hNr.more _, hbr.alloc hbr.size _⟩
          clear hst hNr hbr hg0 hrr hoff'
          go_wp2_with fail
          go_loopw [6] (fun i wr => RO wa.heap.size w6.heap.size K w i wr) (fun i _ => 8 - (intOf i).toNat)
          case atStart => exact hro
          case round =>
            clear hro
            obtain ⟨k, hk, rfl, hg, hst, hNr, hbr⟩ := hrel
            by_cases hlt : k < 8
            · have qk : wr.cell? ⟨w6.heap.size, k, none⟩ = some (.int .u32 (K.get k)) := (hst.at k).trans (st_at K k hlt)
              have hwk := get_wd hK k hlt
              have e1 : IntKind.i64.wrap (4 * (k : Int)) = 4 * (k : Int) := by rw [IntKind.wrap_i64]; omega
              have e2 : (4 * (k : Int)).toNat = 4 * k := by omega
              have i1 : (0 : Int) ≤ 4 * (k : Int) := by omega
              have i2 : 4 * (k : Int) ≤ 32 := by omega
              have i3 : (k : Int) < 8 := by omega
              have i4 : (0 : Int) ≤ (k : Int) := by omega
              have n1 : ¬ 32 = 4 * k := by omega
              have hsrc : Row (wr.alloc (.cells ((bytes4 (K.get k)).map (Value.int .u8)).toArray 5)).drew (some ⟨wr.heap.size, 0, none⟩) 4 (bytes4 (K.get k)) := row_below ((Below.refl _ _).drew) (row_lit4 wr _ hwk)
              have hgd : Has (wr.alloc (.cells ((bytes4 (K.get k)).map (Value.int .u8)).toArray 5)).drew wa.heap.size 22 (outCells K k) := hg.more _
              have hos := Lib.hid (show 4 * k + 4 ≤ (outCells K k).size by rw [out_size K k hk]; omega)
              have hmin := Lib.hid (show Nat.min 4 (32 - 4 * k) = 4 from Nat.min_eq_left (by omega))
              go_wp2_with fail
              go_region_law (first
                | (refine step_cp rfl (.tmp 49) (.tmp 53) rfl 4 wa.heap.size (4 * k) (32 - 4 * k) (32 - 4 * k) (by simp [Act.eval, Act.put]) (some ⟨wr.heap.size, 0, none⟩) 4 4 (by simp [Act.eval, Act.put]) (bytes4 (K.get k)) hsrc hmin.out (outCells K k) 22 hgd hos.out ?_)
                | (go_simp; go_at_call 85; (refine (rbytes_any _ _ hwk).mono ?_); rintro e w8 ⟨rfl, rfl⟩))
              rw [out_next K k hlt]
              have hg2 : Has ((wr.alloc (.cells ((bytes4 (K.get k)).map (Value.int .u8)).toArray 5)).drew.setRow wa.heap.size (outCells K (k + 1))) wa.heap.size 22 (outCells K (k + 1)) := setRow_heap _ _ _ _ _ _ hgd
              have hst2 : Has ((wr.alloc (.cells ((bytes4 (K.get k)).map (Value.int .u8)).toArray 5)).drew.setRow wa.heap.size (outCells K (k + 1))) w6.heap.size 107 (stCells K) := (setRow_other _ _ _ _ (by omega)).trans (hst.more _)
              have hN2 : Has ((wr.alloc (.cells ((bytes4 (K.get k)).map (Value.int .u8)).toArray 5)).drew.setRow wa.heap.size (outCells K (k + 1))) w.heap.size 22 zero24 := (setRow_other _ _ _ _ (by omega)).trans (hNr.more _)
              have hb2 : Below w.heap.size w ((wr.alloc (.cells ((bytes4 (K.get k)).map (Value.int .u8)).toArray 5)).drew.setRow wa.heap.size (outCells K (k + 1))) := below_setRow ((hbr.alloc hbr.size _).drew) (by omega) _
              generalize (wr.alloc (.cells ((bytes4 (K.get k)).map (Value.int .u8)).toArray 5)).drew.setRow wa.heap.size (outCells K (k + 1)) = w9 at *
              clear hsrc hgd e1 e2 qk
              go_wp2
              go_roundw
              case rel => exact ⟨k + 1, by omega, by go_num, hg2, hst2, hN2, hb2⟩
              case measure => simp [intOf]; omega
            · have h8 : k = 8 := by omega
              rw [h8, out_end] at hg
              have hsl := Lib.hid (show (bytes32 K).length = 32 from rfl)
              clear h8 hst
              go_wp2_with (first
                | (refine wpList_load_row rfl 22 _ rfl wa.heap.size rfl 22 _ (0, 0) _ hg Tryd.underlying22 rfl (size24 hsl.out) ?_)
                | (refine wpList_store_row rfl 22 _ _ rfl w.heap.size (nums (bytes32 K)).toArray rfl rfl 22 _ hNr (size24 hsl.out) (by rw [zero24_size, List.size_toArray, nums_len, hsl.out]) (nums_all _) ?_))
              exact bodyPost_ret (results_cell_row rfl _ _ w.heap.size 22 (nums (bytes32 K)).toArray (0, 0) _ rfl (setRow_heap _ _ _ _ _ _ hNr) Tryd.underlying22 rfl (size24 hsl.out)) rfl ⟨by rw [hsum.out], below_setRow hbr (Nat.le_refl _) _⟩
    · have HM := Lib.hid hmod
      have hb1 : (((L % 64 : Nat) : Int) != 56) = true := by simp; omega
      have hb2 : ((L : Int) % 64 != 56) = true := by simp; omega
      have hjz : j < zerosOf n := by
        have e1 := HLL.out
        have e2 := HLR.out
        rcases Nat.lt_or_ge j (zerosOf n) with h | h
        · exact h
        · exfalso
          apply hmod
          have : j = zerosOf n := by omega
          rw [e1, e2, this]; unfold zerosOf; omega
      clear hmod
      have ho2 := hoL.kept ((Below.refl _ wr).alloc (Nat.le_refl _) (.cells #[.int .u8 0] 5))
      have hr2 := own_one wr 0 (by omega)
      have hbw := hbL.alloc hbL.size (.cells #[.int .u8 0] 5)
      have hsw : w.heap.size + 1 ≤ (wr.alloc (.cells #[.int .u8 0] 5)).heap.size := by have := hNL.size; simp; omega
      go_wp2_with (at_builtin; refine wpList_app rfl _ _ rfl (w.heap.size + 1) _ _ _ rfl ho2 _ _ _ _ rfl hr2 (fun h => by cases h) (by omega) hsw ?_; intro v3 w3 ho3 hg3)
      go_roundw
      case rel =>
        rw [rep_snoc] at ho3
        exact ⟨j + 1, L + 1, by omega, by have := HLL.out; omega, ho3, below_own hbw ho2 hg3 (by omega) hbw.size, (hNL.more _).grown hg3 ho2.block (by omega)⟩
      case measure =>
        obtain ⟨A3, c3, rfl, _⟩ := ho3.form
        simp [lenV]; omega
end Go.Proofs.YtcokpdhhpaahgaaDoor.Sha

namespace Go.Proofs.YtcokpdhhpaahgaaDoor.Sha
open Go.RowKit
set_option linter.unusedVariables false
set_option linter.unusedSimpArgs false

set_option maxRecDepth 100000 in
set_option maxHeartbeats 1000000 in
theorem rsha_any (a : Option Addr) (m cap : Nat) (zs : List Int) (w : World) (hr : Row w a m zs) (hcap : m ≤ cap) (hm : m ≤ 1000000) :
    Calls Tryd.prog 52 #[.slice a m cap] w fun e w' => e = .returned (.agg (nums (shaI zs)).toArray) ∧ Below w.heap.size w w' := by
  have hz2 := zero24_run
  have hba : Below w.heap.size w (w.alloc (.cells zero24 22)) := (Below.refl _ _).alloc (Nat.le_refl _) _
  go_enter Tryd.func52, Tryd.ntmps52
  go_wp2_with fail
  refine (rnew_any _).mono ?_
  rintro e w1 ⟨b, rfl, hbge, hs1, H1⟩
  have hb1 := hba.trans (H1.mono hba.size)
  have hout : Has w1 w.heap.size 22 zero24 := (has_new w 22 zero24).kept H1
  have hlt : w.heap.size < b := by simp at hbge; omega
  go_wp2_with fail
  refine (rwrite_any b 0 st0 (.slice none 0 0) [] a m cap zs _ st0_ok hs1 (own_nil _ _) (row_below hb1 hr) hcap (row_off hr (by omega)) (by omega) (by simp; omega)).mono ?_
  rintro e w2 ⟨rfl, v2, hs2, ho2, hon2⟩
  have hb2 := below_only hb1 hon2 (show w.heap.size ≤ b by omega) hb1.size
  have hout2 : Has w2 w.heap.size 22 zero24 := (hon2.block _ hout.size (by intro e; injection e; omega)).trans hout
  have HZ := Lib.hid hr.1
  rw [List.nil_append, Nat.zero_add] at hs2
  rw [List.nil_append] at ho2
  have hlen := Lib.hid (run_len (s := st0) st0_ok hr.2.1)
  go_wp2_with fail
  refine (rsum_any b zs.length _ v2 _ _ (run_ok st0_ok hr.2.1) hs2 (ho2.lower (Nat.zero_le _)) hlen.out (by have := HZ.out; omega)).mono ?_
  rintro e w3 ⟨rfl, H3⟩
  have hb3 := hb2.trans (H3.mono hb2.size)
  have hout3 := hout2.kept H3
  have hsl := Lib.hid (show (shaI zs).length = 32 from rfl)
  have hsh := Lib.hid (show sumI (run st0 zs).1 zs.length (run st0 zs).2 = shaI zs from rfl)
  rw [hsh.out]
  go_wp2_with (refine wpList_store_row rfl 22 _ _ rfl w.heap.size (nums (shaI zs)).toArray rfl rfl 22 _ hout3 (size24 hsl.out) (by rw [zero24_size, List.size_toArray, nums_len, hsl.out]) (nums_all _) ?_)
  exact bodyPost_ret (results_cell_row rfl _ _ w.heap.size 22 (nums (shaI zs)).toArray (0, 0) _ rfl (setRow_heap _ _ _ _ _ _ hout3) Tryd.underlying22 rfl (size24 hsl.out)) rfl ⟨rfl, below_setRow hb3 (Nat.le_refl _) _⟩

/-- A text's bytes, as the conversion of a constant lays them. -/
theorem row_text (w : World) (zs : List Int) (hb : Byt zs) (n : Nat) (hn : zs.length = n) (fr : Nat × Nat) : Row (w.alloc (.cells (nums zs).toArray 5 fr)) (some ⟨w.heap.size, 0, none⟩) n zs := by
  refine row_mk hn hb (by simp) (fun j hj => ?_)
  rw [cell_of_row _ w.heap.size (0 + j) (nums zs).toArray 5 fr (heap_alloc_new w _), Nat.zero_add]
  simp only [nums, List.getElem?_toArray, List.getElem?_map, List.getD_eq_getElem?_getD]
  rw [List.getElem?_eq_getElem (by omega)]
  rfl
end Go.Proofs.YtcokpdhhpaahgaaDoor.Sha

namespace Go.Proofs.YtcokpdhhpaahgaaDoor.Sha
open Go.ChangeShapes Go.WideShapes Go.ChangeAt Go.RowKit
set_option linter.unusedVariables false
set_option linter.unusedSimpArgs false

theorem own : ownKnob Tryd.prog.godebug = none := by kernel_rfl
theorem laidOut : laidOutB Tryd.prog = true := by kernel_rfl
def laid2 : List (String × DataW Unit) := Rows.updateGoesRow.laid
/-- The witness's world bears the laid tables. -/
theorem lay_met (os : Os) (args : Array Value) : laidMetH Tryd.prog laid2 ((World.laidAll Tryd.prog os laid2).forCall (fun _ _ => 0) ⟨#[], args, []⟩).memory := by
  rw [MakeChecks.laidMetH_plain _ _ _ (by kernel_rfl)]; exact laidMet_laidAll _ (by kernel_rfl) (by kernel_rfl)

theorem eqItems_same (zs : List Int) (w : World) : ∀ is : List Nat, (∀ i ∈ is, i < zs.length) → (Op.eqItems 9999 5 1 (nums zs).toArray (nums zs).toArray is).run Tryd.prog w = .ok true w
  | [], _ => by simp [Op.eqItems]
  | i :: is, h => by
    have hi : i < zs.length := h i (by simp)
    have hp : (part 5 (nums zs).toArray (i * 1)).run Tryd.prog w = .ok (.int .u8 zs[i]) w := by
      have hc : (nums zs).toArray[i]? = some (.int .u8 zs[i]) := by simp [nums, hi]
      simp [part, go_sem, hc]
    have he : (Op.equalIn 9999 5 (.int .u8 zs[i]) (.int .u8 zs[i])).run Tryd.prog w = .ok true w := by
      rw [run_equalIn_int w 9998 5 .u8 .u8 _ _ Tryd.underlying5]; simp
    simp only [Op.eqItems, Sem.run_bind, hp, Result.andThen_ok, he, Bool.not_true, Bool.false_eq_true, if_false]
    exact eqItems_same zs w is (fun j hj => h j (by simp [hj]))
/-- A hash is the same as itself. -/
theorem eq24 (zs : List Int) (h : zs.length = 32) (w : World) : (Op.equalIn 10000 22 (.agg (nums zs).toArray) (.agg (nums zs).toArray)).run Tryd.prog w = .ok true w := by
  obtain ⟨i, hi, _, _, _⟩ := info_parts info5
  rw [run_equalIn_array w 9999 (nums zs).toArray (nums zs).toArray Tryd.underlying22 hi, show Tryd.prog.cellsOf 5 = 1 by kernel_rfl]
  exact eqItems_same zs w _ (fun i hi => by rw [h]; exact List.mem_range.1 hi)

/-- What is told of a slice of bytes that came in. -/
def IsRow (k : IntKind) (w : World) (a : Option Addr) (len cap : Nat) (zs : List Int) : Prop :=
  (a = none ∧ len = 0 ∧ cap = 0 ∧ zs = []) ∨
  ∃ x, a = some x ∧ len ≤ cap ∧ cap ≤ maxLen ∧ zs.length = cap ∧ (∀ i, i < zs.length → w.cell? (x.add i) = some (.int k (zs.getD i 0))) ∧ ∀ n ∈ zs, (Lit.int k n).wf = true
theorem row_of {w : World} {a : Option Addr} {len cap : Nat} {zs : List Int} (h : IsRow .u8 w a len cap zs) : Row w a len (zs.take len) ∧ len ≤ cap := by
  rcases h with ⟨rfl, rfl, rfl, rfl⟩ | ⟨x, rfl, hlc, hm, hz, hc, hwf⟩
  · exact ⟨⟨rfl, fun n hn => by simp at hn, .inl rfl⟩, Nat.le_refl _⟩
  · refine ⟨⟨by simp; omega, fun n hn => bounds_u8 (hwf n (List.mem_of_mem_take hn)), ?_⟩, hlc⟩
    by_cases h0 : len = 0
    · exact .inl h0
    · obtain ⟨b, off, rfl, hcell⟩ := ints_at hc (by omega)
      refine .inr ⟨b, off, rfl, ?_, fun j hj => ?_⟩
      · have := hcell 0 (by omega)
        exact World.block_lt_of_cell? _ _ this
      · rw [hcell j (by omega)]
        simp [List.getD_eq_getElem?_getD, hj]
end Go.Proofs.YtcokpdhhpaahgaaDoor.Sha

namespace Go.Proofs.YtcokpdhhpaahgaaDoor.Sha
open Go.RowKit
set_option linter.unusedVariables false
set_option linter.unusedSimpArgs false

theorem byt_sha {bs : List Int} (h : Byt bs) : Byt (shaI bs) := by
  unfold shaI sumI
  exact byt32 (run_ok (run_ok st0_ok h) (byt_app (run_byt st0_ok h) (byt_last _)))
theorem byt_blk' {ks : List Int} (h : Byt ks) : Byt (blkI ks) := byt_blk h (fun _ => byt_sha)
theorem byt_keyed {ks : List Int} (h : Byt ks) {p : Int} (hp : 0 ≤ p ∧ p ≤ 255) : Byt (keyed p ks) := byt_xor hp (byt_blk' h)

def zero30 : Array Value := (nums (List.replicate 64 0)).toArray
theorem zero30_size : zero30.size = 64 := by simp [zero30, nums]
theorem has_row {w : World} {g n : Nat} {t : TypeId} {zs : List Int} (h : Has w g t (nums zs).toArray) (hl : zs.length = n) (hb : Byt zs) : Row w (some ⟨g, 0, none⟩) n zs := row_mk hl hb h.size (fun j hj => by
  rw [h.at, Nat.zero_add]
  simp only [nums, List.getElem?_toArray, List.getElem?_map, List.getD_eq_getElem?_getD]
  rw [List.getElem?_eq_getElem (by omega)]
  rfl)
/-- The key, copied over bytes 0. -/
theorem blk_cells (ks : List Int) (h : ks.length ≤ 64) : (zero30.toList.take 0 ++ (nums (ks.take ks.length) ++ zero30.toList.drop (0 + ks.length))).toArray = (nums (ks ++ List.replicate (64 - ks.length) 0)).toArray := by
  rw [List.take_zero, List.nil_append, List.take_length, Nat.zero_add, zero30, ← nums_app]
  congr 2
  show (nums (List.replicate 64 0)).drop ks.length = nums (List.replicate (64 - ks.length) 0)
  rw [nums, List.map_replicate, List.drop_replicate, nums, List.map_replicate]

/-- The first k bytes turned. -/
def turnedI (p : Int) (bs : List Int) (k : Nat) : List Int := (bs.take k).map (xorI p) ++ bs.drop k
theorem turned_len (p : Int) (bs : List Int) (k : Nat) : (turnedI p bs k).length = bs.length := by
  rw [turnedI, List.length_append, List.length_map, List.length_take, List.length_drop]; omega
theorem turned_at (p : Int) (bs : List Int) (k : Nat) (h : k < bs.length) : (nums (turnedI p bs k)).toArray[k]? = some (.int .u8 (bs.getD k 0)) := by
  have e : (turnedI p bs k)[k]? = some (bs.getD k 0) := by
    rw [turnedI, List.getElem?_append_right (by simp; omega), List.length_map, List.length_take, Nat.min_eq_left (by omega), Nat.sub_self, List.getElem?_drop, Nat.add_zero, List.getElem?_eq_getElem h, List.getD_eq_getElem?_getD, List.getElem?_eq_getElem h]
    rfl
  rw [nums, List.getElem?_toArray, List.getElem?_map, e]
  rfl
theorem turned_put (p : Int) (bs : List Int) (k : Nat) (h : k < bs.length) : (nums (turnedI p bs k)).toArray.setIfInBounds k (.int .u8 (bits .xor .u8 (bs.getD k 0) p)) = (nums (turnedI p bs (k + 1))).toArray := by
  have e : (turnedI p bs k).set k (xorI p (bs.getD k 0)) = turnedI p bs (k + 1) := by
    unfold turnedI
    rw [List.set_append_right _ _ (by simp; omega), List.length_map, List.length_take, Nat.min_eq_left (by omega), Nat.sub_self, List.drop_eq_getElem_cons h, List.set_cons_zero, List.take_succ_eq_append_getElem h, List.map_append, List.append_assoc, List.getD_eq_getElem?_getD, List.getElem?_eq_getElem h]
    rfl
  rw [← e, List.setIfInBounds_toArray, nums, nums, List.map_set]
  rfl
theorem turned_all (p : Int) (bs : List Int) (k : Nat) (h : bs.length = k) : turnedI p bs k = bs.map (xorI p) := by
  rw [turnedI, List.take_of_length_le (by omega), List.drop_of_length_le (by omega), List.append_nil]

/-- A new stream that has folded these 64 bytes. -/
def Begun (X : List Int) (w : World) (e : Ending) (w' : World) : Prop :=
  ∃ (b : Nat) (bf : List Int), e = .returned (.pointer (some ⟨b, 0, none⟩)) ∧ w.heap.size ≤ b ∧ bf.length = 64 ∧ Byt bf ∧ (run st0 X).2 = [] ∧ Has w' b 99 (smCells (run st0 X).1 64 bf) ∧ Below w.heap.size w w'
end Go.Proofs.YtcokpdhhpaahgaaDoor.Sha

namespace Go.Proofs.YtcokpdhhpaahgaaDoor.Sha
open Go.RowKit
set_option linter.unusedVariables false
set_option linter.unusedSimpArgs false

theorem row_off_lt {w : World} {a : Option Addr} {n b B : Nat} {zs : List Int} (h : Row w a n zs) (hB : w.heap.size ≤ B) (hb : B ≤ b) : Off a n b := row_off h (by omega)
end Go.Proofs.YtcokpdhhpaahgaaDoor.Sha

namespace Go.Proofs.YtcokpdhhpaahgaaDoor.Sha
open Go.RowKit
set_option linter.unusedVariables false
set_option linter.unusedSimpArgs false

/-- Two rows that a call made lie in different blocks. -/
def Apart (v v' : Value) : Prop := ∀ g, v.ownBlock = some g → v'.ownBlock ≠ some g
theorem Apart.symm {v v' : Value} (h : Apart v v') : Apart v' v := fun g h1 h2 => h g h2 h1
theorem apart_nil (v : Value) : Apart v (.slice none 0 0) := fun g _ h => by simp [Value.ownBlock] at h
/-- Rows with other first bytes do. -/
theorem apart_of {w : World} {B B' n n' : Nat} {v v' : Value} {xs ys : List Int} (h : Own w B v n xs) (h' : Own w B' v' n' ys) (hn : 0 < n) (hn' : 0 < n') (hne : xs.getD 0 0 ≠ ys.getD 0 0) : Apart v v' := by
  intro g h1 h2
  obtain ⟨A, c, rfl, _, hr, _⟩ := h.form
  obtain ⟨A', c', rfl, _, hr', _⟩ := h'.form
  obtain ⟨b, off, rfl, _, hc⟩ := row_open hr hn
  obtain ⟨b', off', rfl, _, hc'⟩ := row_open hr' hn'
  have e1 : b = g := by simpa [Value.ownBlock] using h1
  have e2 : b' = g := by simpa [Value.ownBlock] using h2
  subst e1
  subst e2
  rcases h.1.2 with ⟨e, _⟩ | ⟨g1, k1, cur1, e, _⟩
  · cases e
  · rcases h'.1.2 with ⟨e', _⟩ | ⟨g2, k2, cur2, e', _⟩
    · cases e'
    · cases e
      cases e'
      have q1 := hc 0 hn
      have q2 := hc' 0 hn'
      rw [q1] at q2
      simp only [Option.some.injEq, Value.int.injEq, true_and] at q2
      exact hne q2
/-- A row stays while another one grows. -/
theorem Own.keep {w w' : World} {B : Nat} {v v' : Value} {n : Nat} {ys : List Int} (h : Own w B v' n ys) (ha : Apart v v') (hg : w.grownBy w' v.ownBlock) : Own w' B v' n ys := by
  obtain ⟨⟨h1, h2⟩, h3⟩ := h
  refine ⟨⟨h1, ?_⟩, h3⟩
  rcases h2 with h2 | ⟨g, cap, cur, e1, e2, e3, e4⟩
  · exact .inl h2
  · refine .inr ⟨g, cap, cur, e1, e2, (hg.block g (Array.getElem?_eq_some_iff.1 e3).1 (fun e => ?_)).trans e3, e4⟩
    exact ha g e.symm (by rw [e1]; rfl)
theorem xor_next (p : Int) (bs : List Int) (k : Nat) (h : k < bs.length) : (bs.take k).map (xorI p) ++ [bits .xor .u8 (bs.getD k 0) p] = (bs.take (k + 1)).map (xorI p) := by
  rw [List.take_succ_eq_append_getElem h, List.map_append, List.getD_eq_getElem?_getD, List.getElem?_eq_getElem h]
  rfl
theorem xor_first (bs : List Int) (j k : Nat) (h : 0 < bs.length) (hj : 0 < j) (hk : 0 < k) (hb : Byt bs) : ((bs.take j).map (xorI 54)).getD 0 0 ≠ ((bs.take k).map (xorI 92)).getD 0 0 := by
  cases bs with
  | nil => simp at h
  | cons x xs =>
    obtain ⟨j, rfl⟩ : ∃ i, j = i + 1 := ⟨j - 1, by omega⟩
    obtain ⟨k, rfl⟩ : ∃ i, k = i + 1 := ⟨k - 1, by omega⟩
    simp only [List.take_succ_cons, List.map_cons, List.getD_cons_zero]
    intro e
    have hx := hb x (by simp)
    unfold xorI at e
    rw [bits_xor x 54 hx (by omega), bits_xor x 92 hx (by omega)] at e
    have e2 : x.toNat ^^^ 54 = x.toNat ^^^ 92 := by
      have : ((x.toNat ^^^ 54 : Nat) : Int) = ((x.toNat ^^^ 92 : Nat) : Int) := e
      omega
    have e3 := congrArg (x.toNat ^^^ ·) e2
    simp [← Nat.xor_assoc] at e3
/-- The loop of the document's function. -/
def RT (blk : List Int) (wk : World) (v7 v8 i : Value) (wr : World) : Prop :=
  ∃ k : Nat, k ≤ 64 ∧ i = .int .i64 k ∧ Own wr wk.heap.size v7 k ((blk.take k).map (xorI 54)) ∧ Own wr wk.heap.size v8 k ((blk.take k).map (xorI 92)) ∧ Apart v7 v8 ∧ (k = 0 → v8 = .slice none 0 0) ∧ Below wk.heap.size wk wr

set_option maxRecDepth 100000 in
set_option maxHeartbeats 2000000 in
theorem rtag_any (a : Option Addr) (m cap : Nat) (ks : List Int) (a' : Option Addr) (m' cap' : Nat) (bs : List Int) (w : World) (hk : Row w a m ks) (hr : Row w a' m' bs) (hcap : m ≤ cap) (hcap' : m' ≤ cap') (hm : m ≤ 1000000) (hm' : m' ≤ 900000) :
    Calls Tryd.prog 37 #[.slice a m cap, .slice a' m' cap'] w fun e w' => e = .returned (.agg (nums (tagI ks bs)).toArray) ∧ Below w.heap.size w w' := by
  have hz2 := zero24_run
  have hmk : ∀ w : World, (Instr.makeSlice 28 (.int .i64 64) (.int .i64 64)).run Tryd.prog w = .ok (.slice (some ⟨w.heap.size, 0, none⟩) 64 64) (w.alloc (.cells (zeroBytes 64) 5)) := make_bytes .i64 .i64 64 64 (by omega) (by omega)
  have hz64 : zeroBytes 64 = zero30 := rfl
  rw [hz64] at hmk
  have hba : Below w.heap.size w ((w.alloc (.cells zero24 22)).alloc (.cells zero30 5)) := ((Below.refl _ _).alloc (Nat.le_refl _) _).alloc (by simp) _
  have hA := (has_new w 22 zero24).more (.cells zero30 5)
  have hB : Has ((w.alloc (.cells zero24 22)).alloc (.cells zero30 5)) (w.heap.size + 1) 5 zero30 := by simpa using has_new (w.alloc (.cells zero24 22)) 5 zero30
  have hbl := Lib.hid (blk_len ks)
  have hbb := byt_blk' hk.2.1
  have hbz := hr.2.1
  have hlz := Lib.hid hr.1
  have htag : ∀ d, shaI ((blkI ks).map (xorI 54) ++ bs) = d → shaI ((blkI ks).map (xorI 92) ++ d) = tagI ks bs := by rintro d rfl; rfl
  have HTAG := Lib.hid htag
  clear htag hz64
  have hr2 := row_below hba hk
  by_cases h64 : m ≤ 64
  · have hik : ¬ (64 : Int) < (m : Int) := by omega
    have hkey : keyI ks = ks := by unfold keyI; rw [if_neg (by rw [hk.1]; omega)]
    have hcells := Lib.hid (show (zero30.toList.take 0 ++ (nums (ks.take m) ++ zero30.toList.drop (0 + m))).toArray = (nums (blkI ks)).toArray by
      have := blk_cells ks (by rw [hk.1]; omega)
      rw [hk.1] at this
      rw [this, blkI, hkey, hk.1])
    clear hkey
    have hA1 : Has (((w.alloc (.cells zero24 22)).alloc (.cells zero30 5)).setRow (w.heap.size + 1) (nums (blkI ks)).toArray) w.heap.size 22 zero24 := (setRow_other ((w.alloc (.cells zero24 22)).alloc (.cells zero30 5)) (w.heap.size + 1) w.heap.size (nums (blkI ks)).toArray (by omega)).trans hA
    have hB1 : Has (((w.alloc (.cells zero24 22)).alloc (.cells zero30 5)).setRow (w.heap.size + 1) (nums (blkI ks)).toArray) (w.heap.size + 1) 5 (nums (blkI ks)).toArray := setRow_heap _ _ _ (nums (blkI ks)).toArray _ _ hB
    have hb1 := below_setRow hba (show w.heap.size ≤ w.heap.size + 1 by omega) (nums (blkI ks)).toArray
    go_enter Tryd.func37, Tryd.ntmps37
    go_wp2_with (with_reducible refine wpList_cp rfl _ _ rfl m (w.heap.size + 1) 0 64 64 rfl _ _ _ rfl ks hr2 (Nat.min_eq_left h64) zero30 5 hB (by rw [zero30_size]; omega) ?_; rw [hcells.out])
    obtain ⟨g, hgE⟩ : ∃ g, g = w.heap.size + 1 := ⟨_, rfl⟩
    rw [← hgE] at hA1 hB1 hb1 ⊢
    generalize ((w.alloc (.cells zero24 22)).alloc (.cells zero30 5)).setRow g (nums (blkI ks)).toArray = wk at *
    clear hA hB hba hr2 hcells hmk hgE
    generalize blkI ks = blk at *
    have hgw : g < wk.heap.size := hB1.size
    have hp0 : RT blk wk (.slice none 0 0) (.slice none 0 0) (.int .i64 0) wk := ⟨0, by omega, rfl, own_nil _ _, own_nil _ _, apart_nil _, fun _ => rfl, Below.refl _ _⟩
    go_loopw [7, 8, 9] (fun v7 v8 i wr => RT blk wk v7 v8 i wr) (fun _ _ i _ => 64 - (intOf i).toNat)
    case atStart => exact hp0
    case round =>
      clear hp0
      obtain ⟨k, hkk, rfl, ho7, ho8, hap, hnil, hbw⟩ := hrel
      by_cases hlt : k < 64
      · have i3 : (k : Int) < 64 := by omega
        have i4 : (0 : Int) ≤ (k : Int) := by omega
        have hlb := Lib.hid (show k < blk.length by rw [hbl.out]; exact hlt)
        have hxk := byt_at hbb k
        have hx7 := xor_byt hxk (show (0 : Int) ≤ 54 ∧ (54 : Int) ≤ 255 by omega)
        have hx8 := xor_byt hxk (show (0 : Int) ≤ 92 ∧ (92 : Int) ≤ 255 by omega)
        have hge : ∀ W, Below wk.heap.size wk W → W.cell? ⟨g, k, none⟩ = some (.int .u8 (blk.getD k 0)) := fun W hW => by
          rw [(hB1.below hW hgw).at]
          simp only [nums, List.getElem?_toArray, List.getElem?_map, List.getD_eq_getElem?_getD]
          rw [List.getElem?_eq_getElem hlb.out]
          rfl
        have HGE := Lib.hid hge
        have q1 := hge wr hbw
        clear hge
        have n7 := Lib.hid (xor_next 54 blk k hlb.out)
        have n8 := Lib.hid (xor_next 92 blk k hlb.out)
        have hfirst := Lib.hid (fun j hj => xor_first blk (k + 1) j (by have := hlb.out; omega) (by omega) hj hbb)
        generalize blk.getD k 0 = x at *
        have a7 := ho7.kept ((Below.refl _ wr).alloc (Nat.le_refl _) (.cells #[.int .u8 (bits .xor .u8 x 54)] 5))
        have r7 := own_one wr _ hx7
        have b7 := hbw.alloc hbw.size (.cells #[.int .u8 (bits .xor .u8 x 54)] 5)
        have s7 : wk.heap.size ≤ (wr.alloc (.cells #[.int .u8 (bits .xor .u8 x 54)] 5)).heap.size := b7.size
        go_wp2_with (first
          | (at_builtin; refine wpList_app rfl _ _ rfl wk.heap.size _ _ _ rfl a8 _ _ _ _ rfl r8 (fun h => by cases h) (by omega) s8 ?_; intro v8' w2 o8 g8)
          | (at_builtin; refine wpList_app rfl _ _ rfl wk.heap.size _ _ _ rfl a7 _ _ _ _ rfl r7 (fun h => by cases h) (by omega) s7 ?_; intro v7' w1 o7 g7; have c7 := below_own b7 a7 g7 (Nat.le_refl _) s7; have q2 := HGE.out w1 c7; have k8 := (ho8.kept ((Below.refl _ wr).alloc (Nat.le_refl _) (.cells #[.int .u8 (bits .xor .u8 x 54)] 5))).keep hap g7; have a8 := k8.kept ((Below.refl _ w1).alloc (Nat.le_refl _) (.cells #[.int .u8 (bits .xor .u8 x 92)] 5)); have r8 := own_one w1 _ hx8; have b8 := c7.alloc c7.size (.cells #[.int .u8 (bits .xor .u8 x 92)] 5); have s8 : wk.heap.size ≤ (w1.alloc (.cells #[.int .u8 (bits .xor .u8 x 92)] 5)).heap.size := b8.size))
        go_roundw
        case rel =>
          rw [n7.out] at o7
          rw [n8.out] at o8
          have hap1 : Apart v7' _ := if h0 : k = 0 then by rw [hnil h0]; exact apart_nil _ else apart_of o7 k8 (by omega) (by omega) (hfirst.out k (by omega))
          have o7a := (o7.kept ((Below.refl _ w1).alloc (Nat.le_refl _) (.cells #[.int .u8 (bits .xor .u8 x 92)] 5))).keep hap1.symm g8
          exact ⟨k + 1, by omega, by go_num, o7a, o8, apart_of o7a o8 (by omega) (by omega) (hfirst.out (k + 1) (by omega)), fun h => by omega, below_own b8 a8 g8 (Nat.le_refl _) s8⟩
        case measure => simp [intOf]; omega
      · have h64' : k = 64 := by omega
        subst h64'
        rw [List.take_of_length_le (by rw [hbl.out]; omega)] at ho7 ho8
        clear hnil hkk
        have hbo := byt_xor (p := 92) (by omega) hbb
        have hbi := byt_xor (p := 54) (by omega) hbb
        have hbT := hb1.trans (hbw.mono hb1.size)
        have hrT := row_below hbT hr
        have hAT := hA1.below hbw (show w.heap.size < wk.heap.size from hA1.size)
        have hlA := hA1.size
        have hsT := hbw.size
        generalize blk.map (xorI 54) = X at *
        generalize blk.map (xorI 92) = Y at *
        go_wp2_with (at_builtin; refine wpList_app rfl _ _ rfl wk.heap.size _ _ _ rfl ho7 _ _ _ _ rfl hrT (row_none hrT) (by omega) hsT ?_; intro v3 w3 o3 g3)
        have k8 := ho8.keep hap g3
        have b3 := below_own hbw ho7 g3 (Nat.le_refl _) hsT
        have hA3 := hAT.grown g3 ho7.block hlA
        obtain ⟨A3, c3, rfl, hc3, hr3, hk3⟩ := o3.form
        refine (rsha_any A3 (64 + m') c3 (X ++ bs) _ hr3 hc3 (by omega)).mono ?_
        rintro e w4 ⟨rfl, H4⟩
        have htq := HTAG.out _ rfl
        have hsl := Lib.hid (sha_len (X ++ bs))
        have hbd := byt_sha (byt_app hbi hbz)
        generalize shaI (X ++ bs) = dig at *
        have b4 := b3.trans (H4.mono b3.size)
        have k4 := (k8.kept H4).kept ((Below.refl _ w4).alloc (Nat.le_refl _) (.cells zero24 22))
        have hA4 := (hA3.kept H4).more (.cells zero24 22)
        have hne := has_new w4 22 zero24
        have b5 := b4.alloc b4.size (.cells zero24 22)
        have hlA4 : w.heap.size < w4.heap.size := (hA3.kept H4).size
        clear o3 g3 hr3 hk3 hA3 k8 ho7 ho8 hap hAT hrT H4 b3 HTAG
        have HTQ := Lib.hid htq
        clear htq
        go_wp2_with (first
          | (at_builtin; refine wpList_app rfl _ _ rfl wk.heap.size _ _ _ rfl k6 _ _ _ _ rfl r6 (fun h => by cases h) (by omega) s6 ?_; intro v7 w7 o7 g7)
          | (refine wpList_row rfl 22 _ _ rfl w4.heap.size (nums dig).toArray rfl rfl 22 _ hne (size24 hsl.out) (by rw [zero24_size, List.size_toArray, nums_len, hsl.out]) (nums_all _) ?_; intro w6 hs6 hon6; have b6 := below_only b5 hon6 b4.size b5.size; have hA6 : Has w6 w.heap.size 22 zero24 := (hon6.block _ hA4.size (by intro e; injection e; omega)).trans hA4; have k6 := k4.only hon6 hne (by decide); have r6 := has_row hs6 hsl.out hbd; have s6 : wk.heap.size ≤ w6.heap.size := b6.size))
        have b7 := below_own b6 k6 g7 (Nat.le_refl _) s6
        have hA7 := hA6.grown g7 k6.block hlA
        obtain ⟨A7, c7, rfl, hc7, hr7, hk7⟩ := o7.form
        clear hA4 hne k4 b5 hon6 hs6 r6 k6 g7 o7 hk7
        refine (rsha_any A7 (64 + 32) c7 (Y ++ dig) _ hr7 hc7 (by omega)).mono ?_
        rintro e w8 ⟨rfl, H8⟩
        have htl := Lib.hid (sha_len (Y ++ dig))
        generalize shaI (Y ++ dig) = tag at *
        have hA8 := hA7.kept H8
        have b8 := hb1.trans ((b7.trans (H8.mono b7.size)).mono hb1.size)
        clear hA7 hr7 hc7 H8
        go_wp2_with (refine wpList_store_row rfl 22 _ _ rfl w.heap.size (nums tag).toArray rfl rfl 22 _ hA8 (size24 htl.out) (by rw [zero24_size, List.size_toArray, nums_len, htl.out]) (nums_all _) ?_)
        exact bodyPost_ret (results_cell_row rfl _ _ w.heap.size 22 (nums tag).toArray (0, 0) _ rfl (setRow_heap _ _ _ _ _ _ hA8) Tryd.underlying22 rfl (size24 htl.out)) rfl ⟨by rw [HTQ.out], below_setRow b8 (Nat.le_refl _) _⟩
  · have hik : (64 : Int) < (m : Int) := by omega
    have hkey : keyI ks = shaI ks := by unfold keyI; rw [if_pos (by rw [hk.1]; omega)]
    have hcells := Lib.hid (show (zero30.toList.take 0 ++ (nums ((shaI ks).take 32) ++ zero30.toList.drop (0 + 32))).toArray = (nums (blkI ks)).toArray by
      have := blk_cells (shaI ks) (by rw [sha_len]; omega)
      rw [sha_len] at this
      rw [this, blkI, hkey, sha_len])
    clear hkey
    have hbs := byt_sha hk.2.1
    have hsl0 := Lib.hid (sha_len ks)
    have hfull : ∃ cells : Array Value, cells = (zero30.toList.take 0 ++ (nums (ks.take 64) ++ zero30.toList.drop (0 + 64))).toArray := ⟨_, rfl⟩
    obtain ⟨old, hold⟩ := hfull
    have HOLD := Lib.hid hold
    clear hold
    have hAo : Has (((w.alloc (.cells zero24 22)).alloc (.cells zero30 5)).setRow (w.heap.size + 1) old) w.heap.size 22 zero24 := (setRow_other ((w.alloc (.cells zero24 22)).alloc (.cells zero30 5)) (w.heap.size + 1) w.heap.size old (by omega)).trans hA
    have hbo := below_setRow hba (show w.heap.size ≤ w.heap.size + 1 by omega) old
    go_enter Tryd.func37, Tryd.ntmps37
    go_wp2_with (with_reducible refine wpList_cp rfl _ _ rfl 64 (w.heap.size + 1) 0 64 64 rfl _ _ _ rfl ks hr2 (Nat.min_eq_right (by omega)) zero30 5 hB (by rw [zero30_size]; omega) ?_; rw [← HOLD.out])
    generalize ((w.alloc (.cells zero24 22)).alloc (.cells zero30 5)).setRow (w.heap.size + 1) old = wo at *
    clear hA hB hba hr2 HOLD
    refine (rsha_any a m cap ks _ (row_below hbo hk) hcap (by omega)).mono ?_
    rintro e w3 ⟨rfl, H3⟩
    have hb3 := hbo.trans (H3.mono hbo.size)
    have hA3 := (hAo.kept H3).more (.cells zero24 22)
    have hlt := (hAo.kept H3).size
    have hne := has_new w3 22 zero24
    have hb4 := hb3.alloc hb3.size (.cells zero24 22)
    clear hAo hbo H3
    generalize shaI ks = dg at *
    go_wp2_with (first
      | (with_reducible refine wpList_cp rfl _ _ rfl 32 w5.heap.size 0 64 64 rfl _ _ _ rfl dg hr6 rfl zero30 5 hB6 (by rw [zero30_size]; omega) ?_; rw [hcells.out])
      | (refine wpList_row rfl 22 _ _ rfl w3.heap.size (nums dg).toArray rfl rfl 22 _ hne (size24 hsl0.out) (by rw [zero24_size, List.size_toArray, nums_len, hsl0.out]) (nums_all _) ?_; intro w5 hs5 hon5; have hb5 := below_only hb4 hon5 hb3.size hb4.size; have hA5 : Has w5 w.heap.size 22 zero24 := (hon5.block _ hA3.size (by intro e; injection e; omega)).trans hA3; have hA6 := hA5.more (.cells zero30 5); have hB6 := has_new w5 5 zero30; have hr6 : Row (w5.alloc (.cells zero30 5)) (some ⟨w3.heap.size, 0, none⟩) 32 dg := has_row (hs5.more _) hsl0.out hbs; have hb6 := hb5.alloc hb5.size (.cells zero30 5)))
    have hA1 : Has ((w5.alloc (.cells zero30 5)).setRow w5.heap.size (nums (blkI ks)).toArray) w.heap.size 22 zero24 := (setRow_other (w5.alloc (.cells zero30 5)) w5.heap.size w.heap.size (nums (blkI ks)).toArray (by have := hA5.size; omega)).trans hA6
    have hB1 : Has ((w5.alloc (.cells zero30 5)).setRow w5.heap.size (nums (blkI ks)).toArray) w5.heap.size 5 (nums (blkI ks)).toArray := setRow_heap _ _ _ (nums (blkI ks)).toArray _ _ hB6
    have hb1 := below_setRow hb6 hb5.size (nums (blkI ks)).toArray
    clear hA6 hB6 hb6 hr6 hA3 hb3 hne hb4 hon5 hs5 hA5
    obtain ⟨g, hgE⟩ : ∃ g, g = w5.heap.size := ⟨_, rfl⟩
    rw [← hgE] at hA1 hB1 hb1 ⊢
    generalize (w5.alloc (.cells zero30 5)).setRow g (nums (blkI ks)).toArray = wk at *
    clear hcells hmk hgE hb5
    generalize blkI ks = blk at *
    have hgw : g < wk.heap.size := hB1.size
    have hp0 : RT blk wk (.slice none 0 0) (.slice none 0 0) (.int .i64 0) wk := ⟨0, by omega, rfl, own_nil _ _, own_nil _ _, apart_nil _, fun _ => rfl, Below.refl _ _⟩
    go_loopw [7, 8, 9] (fun v7 v8 i wr => RT blk wk v7 v8 i wr) (fun _ _ i _ => 64 - (intOf i).toNat)
    case atStart => exact hp0
    case round =>
      clear hp0
      obtain ⟨k, hkk, rfl, ho7, ho8, hap, hnil, hbw⟩ := hrel
      by_cases hlt : k < 64
      · have i3 : (k : Int) < 64 := by omega
        have i4 : (0 : Int) ≤ (k : Int) := by omega
        have hlb := Lib.hid (show k < blk.length by rw [hbl.out]; exact hlt)
        have hxk := byt_at hbb k
        have hx7 := xor_byt hxk (show (0 : Int) ≤ 54 ∧ (54 : Int) ≤ 255 by omega)
        have hx8 := xor_byt hxk (show (0 : Int) ≤ 92 ∧ (92 : Int) ≤ 255 by omega)
        have hge : ∀ W, Below wk.heap.size wk W → W.cell? ⟨g, k, none⟩ = some (.int .u8 (blk.getD k 0)) := fun W hW => by
          rw [(hB1.below hW hgw).at]
          simp only [nums, List.getElem?_toArray, List.getElem?_map, List.getD_eq_getElem?_getD]
          rw [List.getElem?_eq_getElem hlb.out]
          rfl
        have HGE := Lib.hid hge
        have q1 := hge wr hbw
        clear hge
        have n7 := Lib.hid (xor_next 54 blk k hlb.out)
        have n8 := Lib.hid (xor_next 92 blk k hlb.out)
        have hfirst := Lib.hid (fun j hj => xor_first blk (k + 1) j (by have := hlb.out; omega) (by omega) hj hbb)
        generalize blk.getD k 0 = x at *
        have a7 := ho7.kept ((Below.refl _ wr).alloc (Nat.le_refl _) (.cells #[.int .u8 (bits .xor .u8 x 54)] 5))
        have r7 := own_one wr _ hx7
        have b7 := hbw.alloc hbw.size (.cells #[.int .u8 (bits .xor .u8 x 54)] 5)
        have s7 : wk.heap.size ≤ (wr.alloc (.cells #[.int .u8 (bits .xor .u8 x 54)] 5)).heap.size := b7.size
        go_wp2_with (first
          | (at_builtin; refine wpList_app rfl _ _ rfl wk.heap.size _ _ _ rfl a8 _ _ _ _ rfl r8 (fun h => by cases h) (by omega) s8 ?_; intro v8' w2 o8 g8)
          | (at_builtin; refine wpList_app rfl _ _ rfl wk.heap.size _ _ _ rfl a7 _ _ _ _ rfl r7 (fun h => by cases h) (by omega) s7 ?_; intro v7' w1 o7 g7; have c7 := below_own b7 a7 g7 (Nat.le_refl _) s7; have q2 := HGE.out w1 c7; have k8 := (ho8.kept ((Below.refl _ wr).alloc (Nat.le_refl _) (.cells #[.int .u8 (bits .xor .u8 x 54)] 5))).keep hap g7; have a8 := k8.kept ((Below.refl _ w1).alloc (Nat.le_refl _) (.cells #[.int .u8 (bits .xor .u8 x 92)] 5)); have r8 := own_one w1 _ hx8; have b8 := c7.alloc c7.size (.cells #[.int .u8 (bits .xor .u8 x 92)] 5); have s8 : wk.heap.size ≤ (w1.alloc (.cells #[.int .u8 (bits .xor .u8 x 92)] 5)).heap.size := b8.size))
        go_roundw
        case rel =>
          rw [n7.out] at o7
          rw [n8.out] at o8
          have hap1 : Apart v7' _ := if h0 : k = 0 then by rw [hnil h0]; exact apart_nil _ else apart_of o7 k8 (by omega) (by omega) (hfirst.out k (by omega))
          have o7a := (o7.kept ((Below.refl _ w1).alloc (Nat.le_refl _) (.cells #[.int .u8 (bits .xor .u8 x 92)] 5))).keep hap1.symm g8
          exact ⟨k + 1, by omega, by go_num, o7a, o8, apart_of o7a o8 (by omega) (by omega) (hfirst.out (k + 1) (by omega)), fun h => by omega, below_own b8 a8 g8 (Nat.le_refl _) s8⟩
        case measure => simp [intOf]; omega
      · have h64' : k = 64 := by omega
        subst h64'
        rw [List.take_of_length_le (by rw [hbl.out]; omega)] at ho7 ho8
        clear hnil hkk
        have hbo := byt_xor (p := 92) (by omega) hbb
        have hbi := byt_xor (p := 54) (by omega) hbb
        have hbT := hb1.trans (hbw.mono hb1.size)
        have hrT := row_below hbT hr
        have hAT := hA1.below hbw (show w.heap.size < wk.heap.size from hA1.size)
        have hlA := hA1.size
        have hsT := hbw.size
        generalize blk.map (xorI 54) = X at *
        generalize blk.map (xorI 92) = Y at *
        go_wp2_with (at_builtin; refine wpList_app rfl _ _ rfl wk.heap.size _ _ _ rfl ho7 _ _ _ _ rfl hrT (row_none hrT) (by omega) hsT ?_; intro v3 w3 o3 g3)
        have k8 := ho8.keep hap g3
        have b3 := below_own hbw ho7 g3 (Nat.le_refl _) hsT
        have hA3 := hAT.grown g3 ho7.block hlA
        obtain ⟨A3, c3, rfl, hc3, hr3, hk3⟩ := o3.form
        refine (rsha_any A3 (64 + m') c3 (X ++ bs) _ hr3 hc3 (by omega)).mono ?_
        rintro e w4 ⟨rfl, H4⟩
        have htq := HTAG.out _ rfl
        have hsl := Lib.hid (sha_len (X ++ bs))
        have hbd := byt_sha (byt_app hbi hbz)
        generalize shaI (X ++ bs) = dig at *
        have b4 := b3.trans (H4.mono b3.size)
        have k4 := (k8.kept H4).kept ((Below.refl _ w4).alloc (Nat.le_refl _) (.cells zero24 22))
        have hA4 := (hA3.kept H4).more (.cells zero24 22)
        have hne := has_new w4 22 zero24
        have b5 := b4.alloc b4.size (.cells zero24 22)
        have hlA4 : w.heap.size < w4.heap.size := (hA3.kept H4).size
        clear o3 g3 hr3 hk3 hA3 k8 ho7 ho8 hap hAT hrT H4 b3 HTAG
        have HTQ := Lib.hid htq
        clear htq
        go_wp2_with (first
          | (at_builtin; refine wpList_app rfl _ _ rfl wk.heap.size _ _ _ rfl k6 _ _ _ _ rfl r6 (fun h => by cases h) (by omega) s6 ?_; intro v7 w7 o7 g7)
          | (refine wpList_row rfl 22 _ _ rfl w4.heap.size (nums dig).toArray rfl rfl 22 _ hne (size24 hsl.out) (by rw [zero24_size, List.size_toArray, nums_len, hsl.out]) (nums_all _) ?_; intro w6 hs6 hon6; have b6 := below_only b5 hon6 b4.size b5.size; have hA6 : Has w6 w.heap.size 22 zero24 := (hon6.block _ hA4.size (by intro e; injection e; omega)).trans hA4; have k6 := k4.only hon6 hne (by decide); have r6 := has_row hs6 hsl.out hbd; have s6 : wk.heap.size ≤ w6.heap.size := b6.size))
        have b7 := below_own b6 k6 g7 (Nat.le_refl _) s6
        have hA7 := hA6.grown g7 k6.block hlA
        obtain ⟨A7, c7, rfl, hc7, hr7, hk7⟩ := o7.form
        clear hA4 hne k4 b5 hon6 hs6 r6 k6 g7 o7 hk7
        refine (rsha_any A7 (64 + 32) c7 (Y ++ dig) _ hr7 hc7 (by omega)).mono ?_
        rintro e w8 ⟨rfl, H8⟩
        have htl := Lib.hid (sha_len (Y ++ dig))
        generalize shaI (Y ++ dig) = tag at *
        have hA8 := hA7.kept H8
        have b8 := hb1.trans ((b7.trans (H8.mono b7.size)).mono hb1.size)
        clear hA7 hr7 hc7 H8
        go_wp2_with (refine wpList_store_row rfl 22 _ _ rfl w.heap.size (nums tag).toArray rfl rfl 22 _ hA8 (size24 htl.out) (by rw [zero24_size, List.size_toArray, nums_len, htl.out]) (nums_all _) ?_)
        exact bodyPost_ret (results_cell_row rfl _ _ w.heap.size 22 (nums tag).toArray (0, 0) _ rfl (setRow_heap _ _ _ _ _ _ hA8) Tryd.underlying22 rfl (size24 htl.out)) rfl ⟨by rw [HTQ.out], below_setRow b8 (Nat.le_refl _) _⟩
end Go.Proofs.YtcokpdhhpaahgaaDoor.Sha

namespace Go.Proofs.YtcokpdhhpaahgaaDoor.Sha
open Go.RowKit
set_option linter.unusedVariables false
set_option linter.unusedSimpArgs false

theorem ret_bool {a b : Bool} (h : a = b) : Ending.returned (.bool a) = .returned (.bool b) := by rw [h]
theorem row_bytes {w : World} {a : Option Addr} {n : Nat} {zs : List Int} (h : Row w a n zs) : Byt zs := h.2.1
end Go.Proofs.YtcokpdhhpaahgaaDoor.Sha
