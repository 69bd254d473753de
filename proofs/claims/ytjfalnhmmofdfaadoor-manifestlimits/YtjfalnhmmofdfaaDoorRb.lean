/-
  How a manifest's body is read: the program's readers at a place of a row, its readBody; conditions: the row is of 92 bytes.
-/
import Derived.Test.YtjfalnhmmofdfaaDoorTr
import Derived.Deep.RegionHeld3
namespace Go.Proofs.YtjfalnhmmofdfaaDoor
open Go.RowKit
set_option linter.unusedVariables false
set_option linter.unusedSimpArgs false

theorem cutN16 : cutN 16 1000 = 16 := by decide
theorem cutN32 : cutN 32 1000 = 32 := by decide
theorem cutN48 : cutN 4 8 = 4 := by decide
theorem val_four {zs : List Int} (h : Byt zs) (hl : zs.length = 4) : w64 (val zs) = val zs := by
  have := val_pos h
  rw [hl, show (256 : Int) ^ 4 = 4294967296 from rfl] at this
  exact w64_in (by omega)
/-- Reading of a row from its k-th byte on. -/
theorem rraw_k {p T : Nat} {zs : List Int} (k n : Nat) (s : Int) (hs : cutN s 1000 = n) (hl : k + n ≤ zs.length) (w : World) (hS : Rd w p T ⟨zs.drop k, false⟩) :
    Calls Tryd.prog 23 #[.pointer (some ⟨p, 0, none⟩), .int .i64 s] w (GivesR ((zs.drop k).take n) w (RdTo p T ⟨zs.drop (k + n), false⟩ w)) := by
  have h := raw_any s w hS
  have hle : n ≤ (zs.drop k).length := by rw [List.length_drop]; omega
  rw [hs, got_yes rfl hle, aft_yes rfl hle] at h
  simp only [List.drop_drop] at h
  exact h
theorem num_at' {p T : Nat} {zs : List Int} (k : Nat) (hb : Byt zs) (hl : k + 4 ≤ zs.length) (w : World) (hS : Rd w p T ⟨zs.drop k, false⟩) :
    Calls Tryd.prog 42 #[.pointer (some ⟨p, 0, none⟩), .int .i64 4] w (GivesN (val ((zs.drop k).take 4)) (RdTo p T ⟨zs.drop (k + 4), false⟩ w)) := by
  have h := num_any 4 w hS
  have hle : 4 ≤ (zs.drop k).length := by rw [List.length_drop]; omega
  rw [cutN48, got_yes rfl hle, aft_yes rfl hle] at h
  simp only [List.drop_drop] at h
  rw [val_four (byt_take (byt_drop hb _) _) (by rw [List.length_take]; omega)] at h
  exact h
/-- Two manifests of the call's own, the second with what was read so far; and the reader. -/
def RB (w0 : World) (p T k : Nat) (zs : List Int) (m : Mn) (w : World) : Prop :=
  Rd w p T ⟨zs.drop k, false⟩ ∧ Has w (w0.heap.size + 1) 27 m.cells ∧ Has w w0.heap.size 27 zeroM.cells ∧ Only (fun b => b = p) w0 w ∧ p < w0.heap.size ∧ T ≤ p
theorem Rd.at {w : World} {p T : Nat} {S : Rs} (h : Rd w p T S) : p < w.heap.size := by
  obtain ⟨_, _, _, A, c, h4, _⟩ := h
  exact h4.size
theorem rb_start {w0 : World} {p T k : Nat} {zs : List Int} (h : Rd w0 p T ⟨zs.drop k, false⟩) : RB w0 p T k zs zeroM ((w0.alloc (.cells zeroM.cells 27)).alloc (.cells zeroM.cells 27)) := by
  have b1 : Below w0.heap.size w0 (w0.alloc (.cells zeroM.cells 27)) := (Below.refl _ _).alloc (Nat.le_refl _) _
  have b2 : Below w0.heap.size w0 ((w0.alloc (.cells zeroM.cells 27)).alloc (.cells zeroM.cells 27)) := b1.alloc (by simp) _
  have h2 := has_new (w0.alloc (.cells zeroM.cells 27)) 27 zeroM.cells
  rw [World.size_alloc] at h2
  exact ⟨h.only (P := fun _ => False) (Only.of_below b2) (fun b hb => hb.elim), h2, (has_new w0 27 zeroM.cells).more _, Only.of_below b2, h.at, h.2.1⟩
theorem rb_call {w0 w w' : World} {p T k k' : Nat} {zs : List Int} {m : Mn} (h : RB w0 p T k zs m w) (hc : RdTo p T ⟨zs.drop k', false⟩ w w') : RB w0 p T k' zs m w' := by
  obtain ⟨h1, h2, h3, h4, h5, h6⟩ := h
  exact ⟨hc.1, h2.only hc.2 (by omega), h3.only hc.2 (by omega), h4.trans hc.2, h5, h6⟩
theorem rb_drew {w0 w : World} {p T k : Nat} {zs : List Int} {m : Mn} (h : RB w0 p T k zs m w) : RB w0 p T k zs m w.drew := by
  obtain ⟨h1, h2, h3, h4, h5, h6⟩ := h
  have b : Below w.heap.size w w.drew := (Below.refl _ _).drew
  exact ⟨h1.only (P := fun _ => False) (Only.of_below b) (fun b hb => hb.elim), h2.kept b, h3.kept b, h4.below b, h5, h6⟩
theorem rb_put {w0 w : World} {p T k : Nat} {zs : List Int} {m m' : Mn} (h : RB w0 p T k zs m w) (i : Nat) (v : Value) (e : m.cells.setIfInBounds i v = m'.cells) : RB w0 p T k zs m' (w.setCell ⟨w0.heap.size + 1, i, none⟩ v) := by
  obtain ⟨h1, h2, h3, h4, h5, h6⟩ := h
  have o : Only (fun b => b = w0.heap.size + 1) w (w.setCell ⟨w0.heap.size + 1, i, none⟩ v) := (Only.refl (fun b => b = w0.heap.size + 1) w).setCell (q := ⟨w0.heap.size + 1, i, none⟩) rfl v
  have h2' := h2.put i v
  rw [e] at h2'
  exact ⟨h1.only o (fun b e => by omega), h2', h3.only o (by omega), h4.setNew (by simp) v, h5, h6⟩
theorem rb_row {w0 w : World} {p T k : Nat} {zs : List Int} {m : Mn} (h : RB w0 p T k zs m w) (ys : List Int) (hl : m.dig.length = 32) (hy : ys.length = 32) :
    RB w0 p T k zs ⟨m.name, m.ver, m.size, ys⟩ (w.setRow (w0.heap.size + 1) (m.cells.toList.take 3 ++ (nums (ys.take 32) ++ m.cells.toList.drop (3 + 32))).toArray) := by
  obtain ⟨h1, h2, h3, h4, h5, h6⟩ := h
  rw [mn_copy m ys hl hy]
  have o : Only (fun b => b = w0.heap.size + 1) w (w.setRow (w0.heap.size + 1) (Mn.cells ⟨m.name, m.ver, m.size, ys⟩)) := (Only.refl (fun b => b = w0.heap.size + 1) w).setRow (b := w0.heap.size + 1) rfl _
  exact ⟨h1.only o (fun b e => by omega), setRow_heap _ _ _ _ _ _ h2, h3.only o (by omega), ⟨o.os.trans h4.os, o.tape.trans h4.tape, o.output.trans h4.output, Nat.le_trans h4.size o.size, fun b hb hp => (o.block b (Nat.lt_of_lt_of_le hb h4.size) (by omega)).trans (h4.block b hb hp)⟩, h5, h6⟩
theorem rb_row2 {w0 w : World} {p T k : Nat} {zs : List Int} {m : Mn} (h : RB w0 p T k zs m w) (m' : Mn) (hl : m.dig.length = 32) : Only (fun b => b = p) w0 (w.setRow w0.heap.size m'.cells) ∧ Rd (w.setRow w0.heap.size m'.cells) p T ⟨zs.drop k, false⟩ := by
  obtain ⟨h1, h2, h3, h4, h5, h6⟩ := h
  have o : Only (fun b => b = w0.heap.size) w (w.setRow w0.heap.size m'.cells) := (Only.refl (fun b => b = w0.heap.size) w).setRow (b := w0.heap.size) rfl _
  exact ⟨⟨o.os.trans h4.os, o.tape.trans h4.tape, o.output.trans h4.output, Nat.le_trans h4.size o.size, fun b hb hp => (o.block b (Nat.lt_of_lt_of_le hb h4.size) (by omega)).trans (h4.block b hb hp)⟩, h1.only o (fun b e => by omega)⟩
theorem told_is (zs : List Int) : told zs = ⟨strOfNums (nameL zs), verL zs, sizL zs, digL zs⟩ := rfl
theorem dig_len {zs : List Int} (h : zs.length = 92) : (digL zs).length = 32 := by unfold digL; rw [List.length_take, List.length_drop]; omega
/-- What readBody leaves. -/
def ReadTo (zs : List Int) (p T : Nat) (w : World) (e : Ending) (w' : World) : Prop := e = .returned (.agg (told zs).cells) ∧ RdTo p T ⟨zs.drop 60, false⟩ w w'
set_option maxRecDepth 100000 in
set_option maxHeartbeats 4000000 in
theorem readBody_any {p T : Nat} {zs : List Int} (w : World) (hz : zs.length = 92) (hb : Byt zs) (hS : Rd w p T ⟨zs.drop 4, false⟩) :
    Calls Tryd.prog 21 #[.pointer (some ⟨p, 0, none⟩)] w (ReadTo zs p T w) := by
  have hz27 := zero27_run
  have HB0 := Lib.hid (rb_start hS)
  have HR1 := Lib.hid (rraw_k 4 16 16 cutN16 (by omega) _ HB0.out.1)
  have HL1 := Lib.hid (show ((zs.drop 4).take 16).length = 16 by rw [List.length_take, List.length_drop]; omega)
  have HN1 := Lib.hid (show (((zs.drop 4).take 16).take (trimN ((zs.drop 4).take 16) 16)) = nameL zs by unfold nameL trimL; rw [HL1.out])
  have HLD := Lib.hid (dig_len hz)
  clear hS
  go_enter Tryd.func21, Tryd.ntmps21
  go_wp2_with (first
    | (go_at_call 23; (with_reducible refine HR1.out.mono ?_); rintro e w1 ⟨v1, rfl, o1, t1⟩; clear HR1; have HB1 := Lib.hid (rb_call HB0.out t1); clear HB0; rw [HL1.out] at o1; obtain ⟨A1, c1, rfl, hc1, r1, _⟩ := o1.form; obtain ⟨b1, off1, rfl, _, _⟩ := row_open r1 (by omega); have HT := Lib.hid (trim_any b1 off1 16 c1 _ w1 r1 hc1 (by omega) (by omega)); have hcv := conv_row (c := c1) (row_upto r1 (trimN ((zs.drop 4).take 16) 16) (trimN_le _ _)); rw [HN1.out] at hcv; have q0 : w1.cell? ⟨w.heap.size + 1, 0, none⟩ = some (.string zeroM.name) := HB1.out.2.1.at 0; have f0 := HB1.out.2.1.soft 0; clear o1 r1 t1)
    | (go_at_call 41; (with_reducible refine HT.out.mono ?_); rintro e w2 ⟨rfl, rfl⟩; clear HT; have HB2 := Lib.hid (rb_put HB1.out 0 (.string (strOfNums (nameL zs))) (mn_set0 _ _)); clear HB1; have HV := Lib.hid (num_at' 20 hb (by omega) _ HB2.out.1))
    | (go_at_call 42; (with_reducible refine HV.out.mono ?_); rintro e w3 ⟨rfl, t3⟩; clear HV; have HB3 := Lib.hid (rb_call HB2.out t3); clear HB2 t3; have q3 : w3.cell? ⟨w.heap.size + 1, 1, none⟩ = some (.int .i64 0) := HB3.out.2.1.at 1; have f3 := HB3.out.2.1.soft 1; have HB4 := Lib.hid (rb_put HB3.out 1 (.int .i64 (val ((zs.drop 20).take 4))) (mn_set1 _ _)); clear HB3; have HX := Lib.hid (num_at' 24 hb (by omega) _ HB4.out.1))
    | (go_at_call 42; (with_reducible refine HX.out.mono ?_); rintro e w5 ⟨rfl, t5⟩; clear HX; have HB5 := Lib.hid (rb_call HB4.out t5); clear HB4 t5; have q5 : w5.cell? ⟨w.heap.size + 1, 2, none⟩ = some (.int .i64 0) := HB5.out.2.1.at 2; have f5 := HB5.out.2.1.soft 2; have HB6 := Lib.hid (rb_put HB5.out 2 (.int .i64 (val ((zs.drop 24).take 4))) (mn_set2 _ _)); clear HB5))
  generalize hW6 : w5.setCell ⟨w.heap.size + 1, 2, none⟩ (.int .i64 (val ((zs.drop 24).take 4))) = w6 at *
  clear hW6 q0 f0 q3 f3 q5 f5 hcv
  have HB7 := Lib.hid (rb_drew HB6.out)
  have HR7 := Lib.hid (rraw_k 28 32 32 cutN32 (by omega) _ HB7.out.1)
  have HS7 := Lib.hid (Only.refl (fun b => b = p ∨ b = w.heap.size + 1) w6.drew)
  have hz32 : zeroM.dig.length = 32 := zero_len
  refine wp_region_held_drew (S := fun W => Only (fun b => b = p ∨ b = w.heap.size + 1) w6.drew W) (by kernel_rfl) HS7.out ?_
  intro _
  refine wpAnyH_take (i := 0) (v := .pointer (some ⟨w.heap.size + 1, 1, none⟩)) rfl (by kernel_rfl) (by kernel_rfl) (by kernel_rfl) (fun _ _ _ h => h) (Or.inl ⟨by rfl, (fun W _ => by go_simp)⟩) HS7.out ?_
  simp only [List.getElem_toArray, List.getElem_cons_succ, List.getElem_cons_zero, Act.put, List.setIfInBounds_toArray, List.set_cons_zero, List.set_cons_succ]
  refine wpAnyH_take (i := 1) (v := .pointer (some ⟨w.heap.size + 1, 3, none⟩)) rfl (by kernel_rfl) (by kernel_rfl) (by kernel_rfl) (fun _ _ _ h => h) (Or.inl ⟨by rfl, (fun W _ => by go_simp)⟩) HS7.out ?_
  simp only [List.getElem_toArray, List.getElem_cons_succ, List.getElem_cons_zero, Act.put, List.setIfInBounds_toArray, List.set_cons_zero, List.set_cons_succ]
  refine wpAnyH_take (i := 2) (v := .slice (some ⟨w.heap.size + 1, 3, none⟩) 32 32) rfl (by kernel_rfl) (by kernel_rfl) (by kernel_rfl) (fun _ _ _ h => h) (Or.inl ⟨by rfl, (fun W _ => by go_simp)⟩) HS7.out ?_
  simp only [List.getElem_toArray, List.getElem_cons_succ, List.getElem_cons_zero, Act.put, List.setIfInBounds_toArray, List.set_cons_zero, List.set_cons_succ]
  refine wpAnyH_take (i := 3) (v := .pointer (some ⟨p, 0, none⟩)) rfl (by kernel_rfl) (by kernel_rfl) (by kernel_rfl) (fun _ _ _ h => h) (Or.inl ⟨by rfl, (fun W _ => by go_simp)⟩) HS7.out ?_
  simp only [List.getElem_toArray, List.getElem_cons_succ, List.getElem_cons_zero, Act.put, List.setIfInBounds_toArray, List.set_cons_zero, List.set_cons_succ]
  refine wpAnyH_ready (rs := [4]) (by kernel_rfl) (by simp) ?_
  refine AllReadyH.cons rfl (fun K hK => ?_) AllReadyH.nil
  go_simp
  refine (HR7.out).mono ?_
  rintro e w8 ⟨v8, rfl, o8, t8⟩; have HB8 := Lib.hid (rb_call HB7.out t8); have HS8 := Lib.hid (show Only (fun b => b = p ∨ b = w.heap.size + 1) w6.drew w8 from t8.2.mono (fun b e => .inl e)); rw [show ((zs.drop 28).take 32).length = 32 from HLD.out] at o8; obtain ⟨A8, c8, rfl, hc8, r8, _⟩ := o8.form; clear o8 t8
  refine hK.out _ _ HS8.out (fun _ => ?_)
  clear hK K
  refine wpAnyH_ready (rs := [5]) (by kernel_rfl) (by simp) ?_
  refine AllReadyH.cons rfl (fun K hK => ?_) AllReadyH.nil
  refine Sha.step_cp rfl (.tmp 19) (.tmp 21) rfl 32 (w.heap.size + 1) 3 32 32 rfl A8 32 c8 rfl (digL zs) (row_sha r8) rfl _ 27 (has_sha HB8.out.2.1) (Nat.le_of_eq (mn_size hz32).symm) ?_
  refine hK.out _ _ (HS8.out.setRow (.inr rfl) _) (fun _ => ?_)
  clear hK K
  refine wpAnyH_done (by kernel_rfl) ?_ _
  have HB9 : Hid (RB w p T 60 zs (told zs) (w8.setRow (w.heap.size + 1) (List.take 3 (Mn.cells ⟨strOfNums (nameL zs), val ((zs.drop 20).take 4), val ((zs.drop 24).take 4), zeroM.dig⟩).toList ++ (Sha.nums (List.take 32 (digL zs)) ++ List.drop (3 + 32) (Mn.cells ⟨strOfNums (nameL zs), val ((zs.drop 20).take 4), val ((zs.drop 24).take 4), zeroM.dig⟩).toList)).toArray)) := Lib.hid (rb_row HB8.out (digL zs) hz32 HLD.out)
  generalize hW9 : w8.setRow (w.heap.size + 1) (List.take 3 (Mn.cells ⟨strOfNums (nameL zs), val ((zs.drop 20).take 4), val ((zs.drop 24).take 4), zeroM.dig⟩).toList ++ (Sha.nums (List.take 32 (digL zs)) ++ List.drop (3 + 32) (Mn.cells ⟨strOfNums (nameL zs), val ((zs.drop 20).take 4), val ((zs.drop 24).take 4), zeroM.dig⟩).toList)).toArray = w9 at *
  have h9 : Has w9 (w.heap.size + 1) 27 (told zs).cells := HB9.out.2.1
  have g9 : Has w9 w.heap.size 27 zeroM.cells := HB9.out.2.2.1
  have hk : (told zs).dig.length = 32 := HLD.out
  obtain ⟨fin1, fin2⟩ := rb_row2 HB9.out (told zs) HLD.out
  clear HB6 HB7 HS7 HB8
  go_wp2_with (first
    | (refine wpList_load_row rfl 27 _ rfl (w.heap.size + 1) rfl 27 _ (0, 0) _ h9 Tryd.underlying27 rfl (size27 hk) ?_)
    | (refine wpList_store_row rfl 27 _ _ rfl w.heap.size (told zs).cells rfl rfl 27 _ g9 (size27 hk) (old27 hz32 hk) (mn_all _) ?_))
  exact bodyPost_ret (results_cell_row rfl _ _ w.heap.size 27 (told zs).cells (0, 0) _ rfl (setRow_heap _ _ _ _ _ _ g9) Tryd.underlying27 rfl (size27 hk)) rfl ⟨rfl, fin2, fin1⟩
end Go.Proofs.YtjfalnhmmofdfaaDoor
