/-
  How what is kept is read, the program's readMeta, and whether bytes are all 0; conditions: the row reads as bytes.
-/
import Derived.Test.YthkgbcchnneloaaRi
namespace Go.Proofs.Ythkgbcchnneloaa
open Go.RowKit
set_option linter.unusedVariables false
set_option linter.unusedSimpArgs false

/-- What is read so far. -/
def seqT (zs : List Int) : Nat → Mt
  | 0 => zeroT
  | 1 => ⟨stN zs 0 1, zeroI, zeroI, 0, 0, zeroI, 0, 0⟩
  | 2 => ⟨stN zs 0 1, imgS zs 1, zeroI, 0, 0, zeroI, 0, 0⟩
  | 3 => ⟨stN zs 0 1, imgS zs 1, imgS zs 41, 0, 0, zeroI, 0, 0⟩
  | 4 => ⟨stN zs 0 1, imgS zs 1, imgS zs 41, stN zs 81 4, 0, zeroI, 0, 0⟩
  | 5 => ⟨stN zs 0 1, imgS zs 1, imgS zs 41, stN zs 81 4, stN zs 85 1, zeroI, 0, 0⟩
  | 6 => ⟨stN zs 0 1, imgS zs 1, imgS zs 41, stN zs 81 4, stN zs 85 1, imgS zs 86, 0, 0⟩
  | 7 => ⟨stN zs 0 1, imgS zs 1, imgS zs 41, stN zs 81 4, stN zs 85 1, imgS zs 86, stN zs 126 1, 0⟩
  | _ => toldS zs
theorem stN_i64 (zs : List Int) (k n : Nat) : I64 (stN zs k n) := i64_w64 _
theorem seqT_ok {zs : List Int} (hb : Byt zs) : ∀ j, (seqT zs j).Ok
  | 0 => zeroT_ok
  | 1 => ⟨zeroI_ok, zeroI_ok, zeroI_ok, stN_i64 _ _ _, i64_zero, i64_zero, i64_zero, i64_zero⟩
  | 2 => ⟨imgS_ok hb _, zeroI_ok, zeroI_ok, stN_i64 _ _ _, i64_zero, i64_zero, i64_zero, i64_zero⟩
  | 3 => ⟨imgS_ok hb _, imgS_ok hb _, zeroI_ok, stN_i64 _ _ _, i64_zero, i64_zero, i64_zero, i64_zero⟩
  | 4 => ⟨imgS_ok hb _, imgS_ok hb _, zeroI_ok, stN_i64 _ _ _, stN_i64 _ _ _, i64_zero, i64_zero, i64_zero⟩
  | 5 => ⟨imgS_ok hb _, imgS_ok hb _, zeroI_ok, stN_i64 _ _ _, stN_i64 _ _ _, stN_i64 _ _ _, i64_zero, i64_zero⟩
  | 6 => ⟨imgS_ok hb _, imgS_ok hb _, imgS_ok hb _, stN_i64 _ _ _, stN_i64 _ _ _, stN_i64 _ _ _, i64_zero, i64_zero⟩
  | 7 => ⟨imgS_ok hb _, imgS_ok hb _, imgS_ok hb _, stN_i64 _ _ _, stN_i64 _ _ _, stN_i64 _ _ _, stN_i64 _ _ _, i64_zero⟩
  | _ + 8 => toldS_ok hb
theorem sets_0 (zs : List Int) : (seqT zs 0).cells.setIfInBounds 0 (.int .i64 (stN zs 0 1)) = (seqT zs 1).cells := mt_set0 _ _
theorem sets_3 {zs : List Int} (hb : Byt zs) : (seqT zs 3).cells.setIfInBounds 69 (.int .i64 (stN zs 81 4)) = (seqT zs 4).cells := mt_set69 _ (seqT_ok hb 3)
theorem sets_4 {zs : List Int} (hb : Byt zs) : (seqT zs 4).cells.setIfInBounds 70 (.int .i64 (stN zs 85 1)) = (seqT zs 5).cells := mt_set70 _ (seqT_ok hb 4)
theorem sets_6 {zs : List Int} (hb : Byt zs) : (seqT zs 6).cells.setIfInBounds 105 (.int .i64 (stN zs 126 1)) = (seqT zs 7).cells := mt_set105 _ (seqT_ok hb 6)
theorem sets_7 {zs : List Int} (hb : Byt zs) : (seqT zs 7).cells.setIfInBounds 106 (.int .i64 (stN zs 127 1)) = (seqT zs 8).cells := mt_set106 _ (seqT_ok hb 7)
theorem puts_1 {zs : List Int} (hb : Byt zs) : ((seqT zs 1).cells.toList.take 1 ++ (imgS zs 1).list ++ (seqT zs 1).cells.toList.drop (1 + (imgS zs 1).list.length)).toArray = (seqT zs 2).cells := mt_put0 _ (seqT_ok hb 1) (imgS_ok hb 1)
theorem puts_2 {zs : List Int} (hb : Byt zs) : ((seqT zs 2).cells.toList.take 35 ++ (imgS zs 41).list ++ (seqT zs 2).cells.toList.drop (35 + (imgS zs 41).list.length)).toArray = (seqT zs 3).cells := mt_put1 _ (seqT_ok hb 2) (imgS_ok hb 41)
theorem puts_5 {zs : List Int} (hb : Byt zs) : ((seqT zs 5).cells.toList.take 71 ++ (imgS zs 86).list ++ (seqT zs 5).cells.toList.drop (71 + (imgS zs 86).list.length)).toArray = (seqT zs 6).cells := mt_put2 _ (seqT_ok hb 5) (imgS_ok hb 86)
/-- An image stored into the middle of what is kept. -/
theorem wpList_st24 {w : World} {ops : Array Oper} {rest : List Oper} {o : Oper} {a : Act} {Q : Exit → Act → World → Prop} (hgd : o.guard = none) (x y : Operand) (ho : o.op = .store 24 x y)
    (g off : Nat) (i : Im) (hx : a.eval x = .pointer (some ⟨g, off, none⟩)) (hy : a.eval y = .agg i.cells) (m m' : Mt) (hm : m.Ok) (hi : i.Ok) (hg : Has w g 27 m.cells)
    (he : (m.cells.toList.take off ++ i.list ++ m.cells.toList.drop (off + i.list.length)).toArray = m'.cells) (hf : off + 34 ≤ 107)
    (h : ∀ w', Has w' g 27 m'.cells → Only (fun b => b = g) w w' → wpList Try.prog ops Q rest (a.put o.dst undef) w') : wpList Try.prog ops Q (o :: rest) a w := by
  refine wpList_plain hgd fun K hK => ?_
  have hl := iml_len hi
  have hst := run_storeCells_at (P := Try.prog) g off 27 i.list 0 m.cells w hg (by rw [mt_size hm, hl]; omega) (iml_one i)
  rw [Nat.add_zero, he] at hst
  obtain ⟨q, hq, hsz⟩ := Option.map_eq_some_iff.1 size24n
  have hv : (storeVar 24 ⟨g, off, none⟩ (.agg i.cells)).run Try.prog w = .ok () (w.setRow g m'.cells) := by
    have h8 : i.cells.size = 34 := im_size hi
    have h9 : i.cells.toList = i.list := rfl
    simp [storeVar, sizeOf, typeInfo, hq, hsz, Value.cells, h8, h9, hst]
  unfold Oper.wp execOp
  simp only [ho, hx, hy, Instr.storeAt, Instr.sureAddr, Sem.run_bind, Sem.run_pure, Result.andThen_ok, hv]
  exact hK _ _ (h _ (setRow_heap _ _ _ _ _ _ hg) ((Only.refl (fun b => b = g) w).setRow rfl _))
/-- Two of them of the call's own, the second with what was read so far; and the reader. -/
def RM (w0 : World) (p T k : Nat) (zs : List Int) (m : Mt) (w : World) : Prop :=
  Rd w p T (St zs k) ∧ Has w (w0.heap.size + 1) 27 m.cells ∧ Has w w0.heap.size 27 zeroT.cells ∧ Only (fun b => b = p) w0 w ∧ p < w0.heap.size ∧ T ≤ p
theorem rm_start {w0 : World} {p T k : Nat} {zs : List Int} (h : Rd w0 p T (St zs k)) : RM w0 p T k zs zeroT ((w0.alloc (.cells zeroT.cells 27)).alloc (.cells zeroT.cells 27)) := by
  have b1 : Below w0.heap.size w0 (w0.alloc (.cells zeroT.cells 27)) := (Below.refl _ _).alloc (Nat.le_refl _) _
  have b2 : Below w0.heap.size w0 ((w0.alloc (.cells zeroT.cells 27)).alloc (.cells zeroT.cells 27)) := b1.alloc (by simp) _
  have h2 := has_new (w0.alloc (.cells zeroT.cells 27)) 27 zeroT.cells
  rw [World.size_alloc] at h2
  exact ⟨h.only (P := fun _ => False) (Only.of_below b2) (fun b hb => hb.elim), h2, (has_new w0 27 zeroT.cells).more _, Only.of_below b2, h.at, h.2.1⟩
theorem rm_call {w0 w w' : World} {p T k k' : Nat} {zs : List Int} {m : Mt} (h : RM w0 p T k zs m w) (hc : RdTo p T (St zs k') w w') : RM w0 p T k' zs m w' := by
  obtain ⟨h1, h2, h3, h4, h5, h6⟩ := h
  exact ⟨hc.1, h2.only hc.2 (by omega), h3.only hc.2 (by omega), h4.trans hc.2, h5, h6⟩
theorem rm_to {w0 w w' : World} {p T k : Nat} {zs : List Int} {m m' : Mt} (h : RM w0 p T k zs m w) (hg : Has w' (w0.heap.size + 1) 27 m'.cells) (o : Only (fun b => b = w0.heap.size + 1) w w') : RM w0 p T k zs m' w' := by
  obtain ⟨h1, h2, h3, h4, h5, h6⟩ := h
  exact ⟨h1.only o (fun b e => by omega), hg, h3.only o (by omega), ⟨o.os.trans h4.os, o.tape.trans h4.tape, o.output.trans h4.output, Nat.le_trans h4.size o.size, fun b hb hp => (o.block b (Nat.lt_of_lt_of_le hb h4.size) (by omega)).trans (h4.block b hb hp)⟩, h5, h6⟩
theorem rm_put {w0 w : World} {p T k : Nat} {zs : List Int} {m m' : Mt} (h : RM w0 p T k zs m w) (j : Nat) (v : Value) (e : m.cells.setIfInBounds j v = m'.cells) : RM w0 p T k zs m' (w.setCell ⟨w0.heap.size + 1, j, none⟩ v) := by
  have h2' := h.2.1.put j v
  rw [e] at h2'
  exact rm_to h h2' ((Only.refl (fun b => b = w0.heap.size + 1) w).setCell (q := ⟨w0.heap.size + 1, j, none⟩) rfl v)
theorem rm_end {w0 w : World} {p T k : Nat} {zs : List Int} {m : Mt} (h : RM w0 p T k zs m w) (cs : Array Value) : RdTo p T (St zs k) w0 (w.setRow w0.heap.size cs) := by
  obtain ⟨h1, h2, h3, h4, h5, h6⟩ := h
  have o : Only (fun b => b = w0.heap.size) w (w.setRow w0.heap.size cs) := (Only.refl (fun b => b = w0.heap.size) w).setRow (b := w0.heap.size) rfl _
  exact ⟨h1.only o (fun b e => by omega), ⟨o.os.trans h4.os, o.tape.trans h4.tape, o.output.trans h4.output, Nat.le_trans h4.size o.size, fun b hb hp => (o.block b (Nat.lt_of_lt_of_le hb h4.size) (by omega)).trans (h4.block b hb hp)⟩⟩
/-- What readMeta leaves. -/
def ReadT (zs : List Int) (p T : Nat) (w : World) (e : Ending) (w' : World) : Prop := e = .returned (.agg (toldS zs).cells) ∧ RdTo p T (St zs 128) w w'
set_option maxRecDepth 100000 in
set_option maxHeartbeats 4000000 in
theorem readMeta_any {p T : Nat} {zs : List Int} (w : World) (hb : Byt zs) (hS : Rd w p T (St zs 0)) :
    Calls Try.prog 20 #[.pointer (some ⟨p, 0, none⟩)] w (ReadT zs p T w) := by
  have hz27 := zero27_run
  have HB := Lib.hid hb
  have HB0 := Lib.hid (rm_start hS)
  have HV := Lib.hid (num_k 0 1 1 cut8n1 (by omega) _ HB0.out.1)
  have HOK := Lib.hid (toldS_ok hb)
  clear hS hb
  go_enter Try.func20, Try.ntmps20
  go_wp2_with (first
    | (go_at_call 33; (with_reducible refine HV.out.mono ?_); rintro e w1 ⟨rfl, t1⟩; clear HV; have HB1 := Lib.hid (rm_call HB0.out t1); clear HB0 t1; have q1 : w1.cell? ⟨w.heap.size + 1, 0, none⟩ = some (.int .i64 0) := HB1.out.2.1.at 0; have f1 := HB1.out.2.1.soft 0; have HB2 := Lib.hid (rm_put (m' := seqT zs 1) HB1.out 0 (.int .i64 (stN zs 0 1)) (sets_0 zs)); clear HB1))
  generalize hW : w1.setCell ⟨w.heap.size + 1, 0, none⟩ (.int .i64 (stN zs 0 1)) = w2 at *
  clear hW q1 f1
  go_loopw [8] (fun v wr => ∃ k : Nat, k ≤ 2 ∧ v = .int .i64 (k : Int) ∧ Hid (RM w p T (1 + 40 * k) zs (seqT zs (1 + k)) wr)) (fun v _ => 2 - (intOf v).toNat)
  case atStart => exact ⟨0, by omega, rfl, HB2⟩
  case round =>
    clear HB2
    obtain ⟨k, hk, rfl, HR⟩ := hrel
    rcases (show k = 0 ∨ k = 1 ∨ k = 2 by omega) with rfl | rfl | rfl
    · rw [show ((0 : Nat) : Int) = 0 from rfl]
      have HI := Lib.hid (readImage_any wr HB.out HR.out.1)
      have HK := Lib.hid (imgS_ok HB.out 1)
      go_wp2_with (first
        | (go_at_call 34; (with_reducible refine HI.out.mono ?_); rintro e w3 ⟨rfl, t3⟩; clear HI; have HB3 := Lib.hid (rm_call HR.out t3); clear HR t3)
        | (refine wpList_st24 rfl _ _ rfl (w.heap.size + 1) 1 (imgS zs 1) rfl rfl (seqT zs 1) (seqT zs 2) (seqT_ok HB.out 1) HK.out HB3.out.2.1 (puts_1 HB.out) (by omega) ?_; intro w4 hs4 on4; have HB4 := Lib.hid (rm_to HB3.out hs4 on4); clear HB3 hs4 on4))
      go_roundw
      case rel => exact ⟨1, by omega, rfl, HB4⟩
      case measure => simp [intOf]
    · rw [show ((1 : Nat) : Int) = 1 from rfl]
      have HI := Lib.hid (readImage_any wr HB.out HR.out.1)
      have HK := Lib.hid (imgS_ok HB.out 41)
      go_wp2_with (first
        | (go_at_call 34; (with_reducible refine HI.out.mono ?_); rintro e w3 ⟨rfl, t3⟩; clear HI; have HB3 := Lib.hid (rm_call HR.out t3); clear HR t3)
        | (refine wpList_st24 rfl _ _ rfl (w.heap.size + 1) 35 (imgS zs 41) rfl rfl (seqT zs 2) (seqT zs 3) (seqT_ok HB.out 2) HK.out HB3.out.2.1 (puts_2 HB.out) (by omega) ?_; intro w4 hs4 on4; have HB4 := Lib.hid (rm_to HB3.out hs4 on4); clear HB3 hs4 on4))
      go_roundw
      case rel => exact ⟨2, by omega, rfl, HB4⟩
      case measure => simp [intOf]
    · rw [show ((2 : Nat) : Int) = 2 from rfl]
      have HV1 := Lib.hid (num_k 81 4 4 cut8n4 (by omega) _ HR.out.1)
      have HK := Lib.hid (imgS_ok HB.out 86)
      go_wp2_with (first
        | (go_at_call 33; (with_reducible refine HV1.out.mono ?_); rintro e w3 ⟨rfl, t3⟩; clear HV1; have HB3 := Lib.hid (rm_call HR.out t3); clear HR t3; have q3 : w3.cell? ⟨w.heap.size + 1, 69, none⟩ = some (.int .i64 0) := (HB3.out.2.1.at 69).trans (mt_least (seqT_ok HB.out 3)); have f3 := HB3.out.2.1.soft 69; have HB4 := Lib.hid (rm_put (m' := seqT zs 4) HB3.out 69 (.int .i64 (stN zs 81 4)) (sets_3 HB.out)); clear HB3; have HV2 := Lib.hid (num_k 85 1 1 cut8n1 (by omega) _ HB4.out.1))
        | (go_at_call 33; (with_reducible refine HV2.out.mono ?_); rintro e w5 ⟨rfl, t5⟩; clear HV2 q3 f3; have HB5 := Lib.hid (rm_call HB4.out t5); clear HB4 t5; have q5 : w5.cell? ⟨w.heap.size + 1, 70, none⟩ = some (.int .i64 0) := (HB5.out.2.1.at 70).trans (mt_phase (seqT_ok HB.out 4)); have f5 := HB5.out.2.1.soft 70; have HB6 := Lib.hid (rm_put (m' := seqT zs 5) HB5.out 70 (.int .i64 (stN zs 85 1)) (sets_4 HB.out)); clear HB5; have HI := Lib.hid (readImage_any _ HB.out HB6.out.1))
        | (go_at_call 34; (with_reducible refine HI.out.mono ?_); rintro e w7 ⟨rfl, t7⟩; clear HI q5 f5; have HB7 := Lib.hid (rm_call HB6.out t7); clear HB6 t7)
        | (refine wpList_st24 rfl _ _ rfl (w.heap.size + 1) 71 (imgS zs 86) rfl rfl (seqT zs 5) (seqT zs 6) (seqT_ok HB.out 5) HK.out HB7.out.2.1 (puts_5 HB.out) (by omega) ?_; intro w8 hs8 on8; have HB8 := Lib.hid (rm_to HB7.out hs8 on8); clear HB7 hs8 on8; have HV3 := Lib.hid (num_k 126 1 1 cut8n1 (by omega) _ HB8.out.1))
        | (go_at_call 33; (with_reducible refine HV3.out.mono ?_); rintro e w9 ⟨rfl, t9⟩; clear HV3; have HB9 := Lib.hid (rm_call HB8.out t9); clear HB8 t9; have q9 : w9.cell? ⟨w.heap.size + 1, 105, none⟩ = some (.int .i64 0) := (HB9.out.2.1.at 105).trans (mt_gott (seqT_ok HB.out 6)); have f9 := HB9.out.2.1.soft 105; have HB10 := Lib.hid (rm_put (m' := seqT zs 7) HB9.out 105 (.int .i64 (stN zs 126 1)) (sets_6 HB.out)); clear HB9; have HV4 := Lib.hid (num_k 127 1 1 cut8n1 (by omega) _ HB10.out.1))
        | (go_at_call 33; (with_reducible refine HV4.out.mono ?_); rintro e w11 ⟨rfl, t11⟩; clear HV4 q9 f9; have HB11 := Lib.hid (rm_call HB10.out t11); clear HB10 t11; have q11 : w11.cell? ⟨w.heap.size + 1, 106, none⟩ = some (.int .i64 0) := (HB11.out.2.1.at 106).trans (mt_trials (seqT_ok HB.out 7)); have f11 := HB11.out.2.1.soft 106; have HB12 := Lib.hid (rm_put (m' := seqT zs 8) HB11.out 106 (.int .i64 (stN zs 127 1)) (sets_7 HB.out)); clear HB11; have h12 := HB12.out.2.1; have g12 := HB12.out.2.2.1)
        | (refine wpList_load_row rfl 27 _ rfl (w.heap.size + 1) rfl 27 _ (0, 0) _ h12 Try.underlying27 rfl (size27 (seqT_ok HB.out 8)) ?_)
        | (refine wpList_store_row rfl 27 _ _ rfl w.heap.size (seqT zs 8).cells rfl rfl 27 _ g12 (size27 (seqT_ok HB.out 8)) (old27 zeroT_ok (seqT_ok HB.out 8)) (mt_all _) ?_))
      exact bodyPost_ret (results_cell_row rfl _ _ w.heap.size 27 (toldS zs).cells (0, 0) _ rfl (setRow_heap _ _ _ _ _ _ g12) Try.underlying27 rfl (size27 HOK.out)) rfl ⟨rfl, rm_end HB12.out _⟩
/-- Are all bytes 0? -/
theorem allZero_any (A : Option Addr) (n c : Nat) (zs : List Int) (w : World) (hr : Row w A n zs) (hn : n ≤ 1000000) : Calls Try.prog 19 #[.slice A n c] w fun e w' => e = .returned (.bool (zs.all (fun x => x == 0))) ∧ w = w' := by
  have HL := Lib.hid hr.1
  have HR := Lib.hid hr
  clear hr
  go_enter Try.func19, Try.ntmps19
  go_wp2
  go_loopw [7] (fun v wr => ∃ k : Nat, k ≤ n ∧ v = .int .i64 (k : Int) ∧ Hid (∀ j, j < k → zs.getD j 0 = 0) ∧ wr = w) (fun v _ => n - (intOf v).toNat)
  case atStart => exact ⟨0, by omega, rfl, Lib.hid (fun j hj => by omega), rfl⟩
  case round =>
    obtain ⟨k, hk, rfl, HZ, rfl⟩ := hrel
    by_cases hlt : k < n
    · obtain ⟨b, off, rfl, hbw, hcell⟩ := row_open HR.out (by omega)
      have hck := hcell k hlt
      have i0 : (0 : Int) ≤ (k : Int) := by omega
      have i1 : (k : Int) < (n : Int) := by omega
      clear hcell
      by_cases hz : zs.getD k 0 = 0
      · rw [hz] at hck
        have HN : Hid (∀ j, j < k + 1 → zs.getD j 0 = 0) := Lib.hid (fun j hj => by
          by_cases e : j = k
          · rw [e]; exact hz
          · exact HZ.out j (by omega))
        clear hz
        go_wp2
        go_roundw
        case rel => exact ⟨k + 1, by omega, by go_num, HN, by first | rfl | trivial⟩
        case measure => simp [intOf]; omega
      · have EF : Hid (false = zs.all (fun x => x == 0)) := Lib.hid (by
          symm
          rw [List.all_eq_false]
          refine ⟨zs.getD k 0, ?_, by simpa using hz⟩
          rw [List.getD_eq_getElem?_getD, List.getElem?_eq_getElem (by have := HL.out; omega)]
          exact List.getElem_mem _)
        generalize zs.getD k 0 = z at *
        have hz2 : (z != 0) = true := by simpa using hz
        go_wp2
        go_ret
        exact ⟨ret_bool EF.out, rfl⟩
    · have EF : Hid (true = zs.all (fun x => x == 0)) := Lib.hid (by
        symm
        rw [List.all_eq_true]
        intro x hx
        obtain ⟨j, hj, rfl⟩ := List.mem_iff_getElem.1 hx
        have := HZ.out j (by have := HL.out; omega)
        rw [List.getD_eq_getElem?_getD, List.getElem?_eq_getElem hj] at this
        simpa using this)
      have i1 : ¬ (k : Int) < (n : Int) := by omega
      go_wp2
      go_ret
      exact ⟨ret_bool EF.out, rfl⟩
end Go.Proofs.Ythkgbcchnneloaa
