/-
  The document's own stream: its Sum; conditions: the count stays small.
-/
import Derived.Test.YtklhmneapegfpaaGreatDoorShaRw
namespace Go.Proofs.YtklhmneapegfpaaGreatDoor.Sha
open Go.RowKit
set_option linter.unusedVariables false
set_option linter.unusedSimpArgs false

def Pads (n : Nat) (rest : List Int) (w : World) (v : Value) (wr : World) : Prop :=
  ∃ j L : Nat, j ≤ zerosOf n ∧ L = rest.length + 1 + j ∧ Own wr (w.heap.size + 1) v L (rest ++ 128 :: List.replicate j 0) ∧ Below w.heap.size w wr ∧ Has wr w.heap.size 47 zero24
theorem own_one (w : World) (x : Int) (hx : 0 ≤ x ∧ x ≤ 255) : Row (w.alloc (.cells #[.int .u8 x] 5)) (some ⟨w.heap.size, 0, none⟩) 1 [x] := by
  refine row_mk rfl (fun n hn => by simp at hn; omega) (by simp) (fun j hj => ?_)
  obtain rfl : j = 0 := by omega
  simp
theorem rep_snoc (rest : List Int) (j : Nat) : rest ++ 128 :: List.replicate j 0 ++ [0] = rest ++ 128 :: List.replicate (j + 1) (0 : Int) := by
  rw [List.append_assoc, List.cons_append, ← List.replicate_succ']
theorem below_own {B base : Nat} {w0 w w' : World} {v : Value} {n : Nat} {zs : List Int} (h : Below B w0 w) (ho : Own w base v n zs) (hg : w.grownBy w' v.ownBlock) (hB : B ≤ base) (hs : B ≤ w.heap.size) : Below B w0 w' :=
  h.grown hg hs (fun k hk => Nat.le_trans hB (ho.block k hk))

def RB (hb : Nat) (goal : St × List Int) (w : World) (v : Value) (wr : World) : Prop :=
  ∃ (A : Option Addr) (m c : Nat) (rem : List Int) (K : St), v = .slice A m c ∧ m ≤ c ∧ m ≤ 1000000 ∧ m % 64 = 0 ∧ Row wr A m rem ∧ Off A m hb ∧ K.Ok ∧ run K rem = goal ∧ Has wr hb 92 (stCells K) ∧ Has wr w.heap.size 47 zero24 ∧ Below w.heap.size w wr
theorem st_eight {w : World} {b : Nat} {K : St} (h : Has w b 92 (stCells K)) :
    w.cell? ⟨b, 0, none⟩ = some (.int .u32 K.a) ∧ w.cell? ⟨b, 1, none⟩ = some (.int .u32 K.b) ∧ w.cell? ⟨b, 2, none⟩ = some (.int .u32 K.c) ∧ w.cell? ⟨b, 3, none⟩ = some (.int .u32 K.d) ∧
    w.cell? ⟨b, 4, none⟩ = some (.int .u32 K.e) ∧ w.cell? ⟨b, 5, none⟩ = some (.int .u32 K.f) ∧ w.cell? ⟨b, 6, none⟩ = some (.int .u32 K.g) ∧ w.cell? ⟨b, 7, none⟩ = some (.int .u32 K.h) :=
  ⟨h.at 0, h.at 1, h.at 2, h.at 3, h.at 4, h.at 5, h.at 6, h.at 7⟩

def outCells (K : St) (k : Nat) : Array Value := (nums (wUp K k ++ List.replicate (32 - 4 * k) 0)).toArray
theorem wUp_len (K : St) : ∀ k, (wUp K k).length = 4 * k
  | 0 => rfl
  | k + 1 => by rw [wUp, List.length_append, wUp_len K k, len4]; omega
theorem out_size (K : St) (k : Nat) (h : k ≤ 8) : (outCells K k).size = 32 := by
  rw [outCells, List.size_toArray, nums_len, List.length_append, wUp_len, List.length_replicate]; omega
theorem out_start (K : St) : outCells K 0 = zero24 := rfl
theorem out_end (K : St) : outCells K 8 = (nums (bytes32 K)).toArray := by simp [outCells, wUp_all]
theorem out_next (K : St) (k : Nat) (h : k < 8) : ((outCells K k).toList.take (4 * k) ++ (nums ((bytes4 (K.get k)).take 4) ++ (outCells K k).toList.drop (4 * k + 4))).toArray = outCells K (k + 1) := by
  have e1 : (outCells K k).toList.take (4 * k) = nums (wUp K k) := by
    rw [outCells, ← nums_app]
    exact List.take_left' (by rw [nums_len, wUp_len])
  have e2 : (outCells K k).toList.drop (4 * k + 4) = nums (List.replicate (32 - 4 * (k + 1)) 0) := by
    rw [outCells, ← nums_app]
    show (nums (wUp K k) ++ nums (List.replicate (32 - 4 * k) 0)).drop (4 * k + 4) = _
    rw [List.drop_append, List.drop_of_length_le (by rw [nums_len, wUp_len]; omega), nums_len, wUp_len, List.nil_append]
    unfold nums
    rw [← List.map_drop, List.drop_replicate]
    congr 2
    omega
  rw [e1, e2, nums_app, nums_app, List.take_of_length_le (by rw [len4]; omega), ← List.append_assoc]
  rfl
def RO (g hb : Nat) (K : St) (w : World) (i : Value) (wr : World) : Prop :=
  ∃ k : Nat, k ≤ 8 ∧ i = .int .i64 k ∧ Has wr g 47 (outCells K k) ∧ Has wr hb 92 (stCells K) ∧ Has wr w.heap.size 47 zero24 ∧ Below w.heap.size w wr

set_option maxRecDepth 100000 in
set_option maxHeartbeats 2000000 in
theorem rsum_any (b n : Nat) (H : St) (v : Value) (rest : List Int) (w : World) (hH : H.Ok) (hs : Has w b 100 (rsCells H n v)) (ho : Own w 0 v rest.length rest) (hl : rest.length = n % 64) (hn : n < 1099511627776) :
    Calls Tryz.prog 45 #[.pointer (some ⟨b, 0, none⟩)] w fun e w' => e = .returned (.agg (nums (sumI H n rest)).toArray) ∧ Below w.heap.size w w' := by
  have hz2 := zero24_run
  have HLR := Lib.hid hl
  have hl64 : rest.length < 64 := by omega
  clear hl
  obtain ⟨A0, c0, rfl, hc0, hr0, hk0⟩ := ho.form
  have hbs : b < w.heap.size := hs.size
  have c9 : w.cell? ⟨b, 9, none⟩ = some (.slice A0 rest.length c0) := hs.at 9
  have hbA : Below w.heap.size w (w.alloc (.cells zero24 47)) := (Below.refl _ _).alloc (Nat.le_refl _) _
  have hr1 := row_below hbA hr0
  have hnil := own_nil (w.alloc (.cells zero24 47)) (w.heap.size + 1)
  have hsz : w.heap.size + 1 ≤ (w.alloc (.cells zero24 47)).heap.size := by simp
  have hN := has_new w 47 zero24
  go_enter Tryz.func45, Tryz.ntmps45
  go_wp2_with (first
    | (at_builtin; refine wpList_app rfl _ _ rfl (w.heap.size + 1) _ _ _ rfl ho2 _ _ _ _ rfl hr2 (fun h => by cases h) (by omega) hsz2 ?_; intro v2 w2 ho3 hg2)
    | (at_builtin; refine wpList_app rfl _ _ rfl (w.heap.size + 1) _ _ _ rfl hnil _ _ _ _ rfl hr1 (row_none hr1) (by omega) hsz ?_; intro v1 w1 ho1 hg1; rw [Nat.zero_add, List.nil_append] at ho1; have ho2 := ho1.kept ((Below.refl _ w1).alloc (Nat.le_refl _) (.cells #[.int .u8 128] 5)); have hr2 := own_one w1 128 (by omega); have hsz2 : w.heap.size + 1 ≤ (w1.alloc (.cells #[.int .u8 128] 5)).heap.size := by (have := hg1.size; simp at this ⊢; omega)))
  have hb1 := below_own hbA hnil hg1 (by omega) hbA.size
  have hbB := hb1.alloc hb1.size (.cells #[.int .u8 128] 5)
  have hb2 := below_own hbB ho2 hg2 (by omega) hbB.size
  have hN2 : Has w2 w.heap.size 47 zero24 := ((hN.grown hg1 hnil.block (by omega)).more _).grown hg2 ho2.block (by omega)
  have hp0 : Pads n rest w v2 w2 := ⟨0, rest.length + 1, by omega, rfl, ho3, hb2, hN2⟩
  clear ho1 ho2 ho3 hr2 hsz2 hg1 hg2 hb1 hbB hb2 hN2 hN hnil hsz hr1 hbA
  go_loopw [3] (fun v wr => Pads n rest w v wr) (fun v _ => 200 - lenV v)
  case atStart => exact hp0
  case round =>
    clear hp0
    obtain ⟨j, L, hj, hL, hoL, hbL, hNL⟩ := hrel
    obtain ⟨A, c, rfl, hc, hrL, hkL⟩ := hoL.form
    have hzl := zeros_lt n
    have HLL := Lib.hid hL
    have hL2 : L ≤ 130 := by omega
    clear hL
    by_cases hmod : L % 64 = 56
    · have HM := Lib.hid hmod
      have hb1 : (((L % 64 : Nat) : Int) != 56) = false := by simp; omega
      have hb2 : ((L : Int) % 64 != 56) = false := by simp; omega
      have hjz : j = zerosOf n := by
        have e1 := HLL.out
        have e2 := HLR.out
        unfold zerosOf at *
        omega
      subst hjz
      clear hmod
      have hoP : Own wr (w.heap.size + 1) (.slice A L c) L (rest ++ padI n) := hoL
      have hsL : Has wr b 100 (rsCells H n (.slice A0 rest.length c0)) := hs.below hbL hbs
      have q8 : wr.cell? ⟨b, 8, none⟩ = some (.int .u64 (n : Int)) := hsL.at 8
      go_wp2_with fail
      refine (eight_any ((n : Int) * 8) _ (by unfold U64; omega)).mono ?_
      rintro e w5 ⟨v5, rfl, ho5, hb5⟩
      obtain ⟨A5, c5, rfl, hc5, hr5, hk5⟩ := ho5.form
      have hoQ := hoP.kept hb5
      have hbQ := hbL.trans (hb5.mono hbL.size)
      have hsQ := hsL.kept hb5
      have hNQ := hNL.kept hb5
      have hszQ : w.heap.size + 1 ≤ w5.heap.size := by have := hNQ.size; omega
      clear q8 hoL hrL hkL hoP hsL hNL hbL hc c9
      go_wp2_with (at_builtin; refine wpList_app rfl _ _ rfl (w.heap.size + 1) _ _ _ rfl hoQ _ _ _ _ rfl hr5 (row_none hr5) (by omega) hszQ ?_; intro v6 w6 ho6 hg6; have hb6 := below_own hbQ hoQ hg6 (by omega) hbQ.size; have hs6 : Has w6 b 100 (rsCells H n (.slice A0 rest.length c0)) := hsQ.grown hg6 hoQ.block (by omega); have hN6 := hNQ.grown hg6 hoQ.block (by omega); obtain ⟨g1, g2, g3, g4, g5, g6, g7, g8, _, _, _, _, _, _, _, _⟩ := rs_eight hs6)
      clear g1 g2 g3 g4 g5 g6 g7 g8
      obtain ⟨A6, c6, rfl, hc6, hr6, hk6⟩ := ho6.form
      have hgl := Lib.hid (show run H (rest ++ padI n ++ bytes8 ((n : Int) * 8)) = run H (rest ++ lastI n) by
        rw [lastI, List.append_assoc, show ((8 * n % 18446744073709551616 : Nat) : Int) = (n : Int) * 8 by omega])
      have hm64 : (L + 8) % 64 = 0 := by have := HM.out; omega
      have hrb : RB w6.heap.size (run H (rest ++ lastI n)) w (.slice A6 (L + 8) c6) (w6.alloc (.cells (stCells H) 92)) :=
        ⟨A6, L + 8, c6, _, H, rfl, hc6, by omega, hm64, row_below ((Below.refl _ w6).alloc (Nat.le_refl _) _) hr6, row_off hr6 (Nat.le_refl _), hH, hgl.out, has_new w6 92 _, hN6.more _, hb6.alloc hb6.size _⟩
      have hHB : w.heap.size < w6.heap.size := hN6.size
      have HM64 := Lib.hid hm64
      clear hm64 ho6 hg6 hb6 hs6 hN6 hr6 hk6 hc6 hoQ hbQ hsQ hNQ hszQ ho5 hb5 hr5 hk5 hc5 hgl
      go_loopw [3] (fun v wr => RB w6.heap.size (run H (rest ++ lastI n)) w v wr) (fun v _ => lenV v)
      case atStart => exact hrb
      case round =>
        clear hrb
        obtain ⟨A, m', c', rem, K, rfl, hmc, hm1, hm64, hrr, hoff', hK, hrun, hst, hNr, hbr⟩ := hrel
        have HM6 := Lib.hid hm64
        by_cases h64 : 0 < m'
        · have h64' : 64 ≤ m' := by omega
          clear hm64
          obtain ⟨rb, ro, rfl, hrw, _⟩ := row_open hrr (by omega)
          have hrun2 := Lib.hid (run_step K rem (by rw [hrr.1]; exact h64'))
          have HR := Lib.hid hrun
          clear hrun
          have hr64 := row_upto hrr 64 h64'
          obtain ⟨g1, g2, g3, g4, g5, g6, g7, g8⟩ := st_eight hst
          have i64 : (64 : Int) ≤ (m' : Int) := by omega
          have i65 : (64 : Int) ≤ (c' : Int) := by omega
          have i0 : (0 : Int) < (m' : Int) := by omega
          go_wp2_with fail
          have hfold := block_lit K (foldI K (rem.take 64)) (rem.take 64) rfl rb ro c' wr.drew hK (by omega) (row_below ((Below.refl _ wr).drew) hr64)
          have hXok := foldI_ok K (rem.take 64)
          generalize foldI K (rem.take 64) = X at *
          refine wp_region_still_tail 3 (by kernel_rfl) (by kernel_rfl) ?_
          simp only [World.drew_eq]
          simp only [List.take_succ_cons, List.take_zero, List.drop_succ_cons, List.drop_zero]
          repeat still_step
          refine wpStill_nil ?_
          go_wp2_with fail
          refine hfold.mono ?_
          rintro e w1 ⟨rfl, H1⟩
          have hst1 : Has w1 w6.heap.size 92 (stCells K) := Has.kept (w := wr.drew) hst H1
          have hst2 := setRow_heap _ _ _ (stCells X) _ _ hst1
          have hN2 : Has (w1.setRow w6.heap.size (stCells X)) w.heap.size 47 zero24 := (setRow_other w1 _ _ _ (by omega)).trans (Has.kept (w := wr.drew) hNr H1)
          have hb2 := below_setRow (hbr.drew.trans (H1.mono hbr.size)) (show w.heap.size ≤ w6.heap.size by omega) (stCells X)
          have hrr2 := row_only hrr (only_row (only_below (only_drew (only_refl wr (some w6.heap.size))) H1) (stCells X)) hoff'
          clear g1 g2 g3 g4 g5 g6 g7 g8 hfold
          by_cases hc64 : c' = 64
          · have hm64 : m' = 64 := by omega
            go_wp2_with (refine wpList_store_row rfl 92 _ _ rfl w6.heap.size (stCells X) rfl rfl 92 _ hst1 size45 rfl (st_all _) ?_)
            go_roundw
            case rel => exact ⟨_, _, _, rem.drop 64, X, rfl, by omega, by omega, by omega, ⟨by rw [List.length_drop, hrr.1]; omega, byt_drop hrr.2.1 _, .inl rfl⟩, (fun h => absurd h (by omega)), hXok, hrun2.out.symm.trans HR.out, hst2, hN2, hb2⟩
            case measure => simp [lenV]; omega
          · have hrr3 := fun h => row_from hrr2 64 h
            go_wp2_with (refine wpList_store_row rfl 92 _ _ rfl w6.heap.size (stCells X) rfl rfl 92 _ hst1 size45 rfl (st_all _) ?_)
            go_roundw
            case rel =>
              have := HM6.out
              by_cases hm64 : m' = 64
              · exact ⟨_, _, _, rem.drop 64, X, rfl, by omega, by omega, by omega, ⟨by rw [List.length_drop, hrr.1], byt_drop hrr.2.1 _, .inl (by omega)⟩, (fun _ x hx => by cases hx; exact hoff' (by omega) ⟨rb, ro, none⟩ rfl), hXok, hrun2.out.symm.trans HR.out, hst2, hN2, hb2⟩
              · exact ⟨_, _, _, rem.drop 64, X, rfl, by omega, by omega, by omega, hrr3 (by omega), (fun _ x hx => by cases hx; exact hoff' (by omega) ⟨rb, ro, none⟩ rfl), hXok, hrun2.out.symm.trans HR.out, hst2, hN2, hb2⟩
            case measure => simp [lenV]; omega
        · obtain rfl : m' = 0 := by omega
          have hrem : rem = [] := List.eq_nil_of_length_eq_zero hrr.1
          subst hrem
          have HG := Lib.hid (show (K, ([] : List Int)) = run H (rest ++ lastI n) from hrun)
          clear hrun hm64 HM6
          have hsum := Lib.hid (show sumI H n rest = bytes32 K by unfold sumI; rw [← HG.out])
          obtain ⟨wa, rfl⟩ : ∃ x, x = wr := ⟨_, rfl⟩
          have hg0 := has_new wa 47 zero24
          have hlt2 : w6.heap.size < wa.heap.size := hst.size
          have hro : RO wa.heap.size w6.heap.size K w (.int .i64 0) (wa.alloc (.cells zero24 47)) := ⟨0, by omega, rfl, by rw [out_start]; exact hg0, hst.more _, hNr.more _, hbr.alloc hbr.size _⟩
          clear hst hNr hbr hg0 hrr hoff'
          go_wp2_with fail
          go_loopw [6] (fun i wr => RO wa.heap.size w6.heap.size K w i wr) (fun i _ => 8 - (intOf i).toNat)
          case atStart => exact hro
          case round =>
            clear hro
            obtain ⟨k, hk, rfl, hg, hst, hNr, hbr⟩ := hrel
            by_cases hlt : k < 8
            · have qk : wr.cell? ⟨w6.heap.size, k, none⟩ = some (.int .u32 (K.get k)) := (hst.at k).trans (st_at K k hlt)
              have hwk := get_wd hK k hlt
              have e1 : IntKind.i64.wrap (4 * (k : Int)) = 4 * (k : Int) := by rw [IntKind.wrap_i64]; omega
              have e2 : (4 * (k : Int)).toNat = 4 * k := by omega
              have i1 : (0 : Int) ≤ 4 * (k : Int) := by omega
              have i2 : 4 * (k : Int) ≤ 32 := by omega
              have i3 : (k : Int) < 8 := by omega
              have i4 : (0 : Int) ≤ (k : Int) := by omega
              have n1 : ¬ 32 = 4 * k := by omega
              have hsrc : Row (wr.alloc (.cells ((bytes4 (K.get k)).map (Value.int .u8)).toArray 5)).drew (some ⟨wr.heap.size, 0, none⟩) 4 (bytes4 (K.get k)) := row_below ((Below.refl _ _).drew) (row_lit4 wr _ hwk)
              have hgd : Has (wr.alloc (.cells ((bytes4 (K.get k)).map (Value.int .u8)).toArray 5)).drew wa.heap.size 47 (outCells K k) := hg.more _
              have hos := Lib.hid (show 4 * k + 4 ≤ (outCells K k).size by rw [out_size K k hk]; omega)
              have hmin := Lib.hid (show Nat.min 4 (32 - 4 * k) = 4 from Nat.min_eq_left (by omega))
              go_wp2_with fail
              go_region_law (first
                | (refine step_cp rfl (.tmp 49) (.tmp 53) rfl 4 wa.heap.size (4 * k) (32 - 4 * k) (32 - 4 * k) (by simp [Act.eval, Act.put]) (some ⟨wr.heap.size, 0, none⟩) 4 4 (by simp [Act.eval, Act.put]) (bytes4 (K.get k)) hsrc hmin.out (outCells K k) 47 hgd hos.out ?_)
                | (go_simp; go_at_call 53; (refine (rbytes_any _ _ hwk).mono ?_); rintro e w8 ⟨rfl, rfl⟩))
              rw [out_next K k hlt]
              have hg2 : Has ((wr.alloc (.cells ((bytes4 (K.get k)).map (Value.int .u8)).toArray 5)).drew.setRow wa.heap.size (outCells K (k + 1))) wa.heap.size 47 (outCells K (k + 1)) := setRow_heap _ _ _ _ _ _ hgd
              have hst2 : Has ((wr.alloc (.cells ((bytes4 (K.get k)).map (Value.int .u8)).toArray 5)).drew.setRow wa.heap.size (outCells K (k + 1))) w6.heap.size 92 (stCells K) := (setRow_other _ _ _ _ (by omega)).trans (hst.more _)
              have hN2 : Has ((wr.alloc (.cells ((bytes4 (K.get k)).map (Value.int .u8)).toArray 5)).drew.setRow wa.heap.size (outCells K (k + 1))) w.heap.size 47 zero24 := (setRow_other _ _ _ _ (by omega)).trans (hNr.more _)
              have hb2 : Below w.heap.size w ((wr.alloc (.cells ((bytes4 (K.get k)).map (Value.int .u8)).toArray 5)).drew.setRow wa.heap.size (outCells K (k + 1))) := below_setRow ((hbr.alloc hbr.size _).drew) (by omega) _
              generalize (wr.alloc (.cells ((bytes4 (K.get k)).map (Value.int .u8)).toArray 5)).drew.setRow wa.heap.size (outCells K (k + 1)) = w9 at *
              clear hsrc hgd e1 e2 qk
              go_wp2
              go_roundw
              case rel => exact ⟨k + 1, by omega, by go_num, hg2, hst2, hN2, hb2⟩
              case measure => simp [intOf]; omega
            · have h8 : k = 8 := by omega
              rw [h8, out_end] at hg
              have hsl := Lib.hid (show (bytes32 K).length = 32 from rfl)
              clear h8 hst
              go_wp2_with (first
                | (refine wpList_load_row rfl 47 _ rfl wa.heap.size rfl 47 _ (0, 0) _ hg Tryz.underlying47 rfl (size24 hsl.out) ?_)
                | (refine wpList_store_row rfl 47 _ _ rfl w.heap.size (nums (bytes32 K)).toArray rfl rfl 47 _ hNr (size24 hsl.out) (by rw [zero24_size, List.size_toArray, nums_len, hsl.out]) (nums_all _) ?_))
              exact bodyPost_ret (results_cell_row rfl _ _ w.heap.size 47 (nums (bytes32 K)).toArray (0, 0) _ rfl (setRow_heap _ _ _ _ _ _ hNr) Tryz.underlying47 rfl (size24 hsl.out)) rfl ⟨by rw [hsum.out], below_setRow hbr (Nat.le_refl _) _⟩
    · have HM := Lib.hid hmod
      have hb1 : (((L % 64 : Nat) : Int) != 56) = true := by simp; omega
      have hb2 : ((L : Int) % 64 != 56) = true := by simp; omega
      have hjz : j < zerosOf n := by
        have e1 := HLL.out
        have e2 := HLR.out
        rcases Nat.lt_or_ge j (zerosOf n) with h | h
        · exact h
        · exfalso
          apply hmod
          have : j = zerosOf n := by omega
          rw [e1, e2, this]; unfold zerosOf; omega
      clear hmod
      have ho2 := hoL.kept ((Below.refl _ wr).alloc (Nat.le_refl _) (.cells #[.int .u8 0] 5))
      have hr2 := own_one wr 0 (by omega)
      have hbw := hbL.alloc hbL.size (.cells #[.int .u8 0] 5)
      have hsw : w.heap.size + 1 ≤ (wr.alloc (.cells #[.int .u8 0] 5)).heap.size := by have := hNL.size; simp; omega
      go_wp2_with (at_builtin; refine wpList_app rfl _ _ rfl (w.heap.size + 1) _ _ _ rfl ho2 _ _ _ _ rfl hr2 (fun h => by cases h) (by omega) hsw ?_; intro v3 w3 ho3 hg3)
      go_roundw
      case rel =>
        rw [rep_snoc] at ho3
        exact ⟨j + 1, L + 1, by omega, by have := HLL.out; omega, ho3, below_own hbw ho2 hg3 (by omega) hbw.size, (hNL.more _).grown hg3 ho2.block (by omega)⟩
      case measure =>
        obtain ⟨A3, c3, rfl, _⟩ := ho3.form
        simp [lenV]; omega
end Go.Proofs.YtklhmneapegfpaaGreatDoor.Sha
