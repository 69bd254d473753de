/-
  How an image is read: the program's reader at a place of a row, its readImage; the document's getImage; conditions: the row reads as bytes.
-/
import Derived.Test.YthkgbcchnneloaaSt
namespace Go.Proofs.Ythkgbcchnneloaa
open Go.RowKit
set_option linter.unusedVariables false
set_option linter.unusedSimpArgs false

/-- copy(d, s) as one step of a region that draws its order. -/
theorem step_cp {w : World} {ops : Array Oper} {o : Oper} {a : Act} {K : Act → World → Prop} {Q : Exit → Act → World → Prop} {E : Prop} (hgd : o.guard = none) (d s : Operand)
    (ho : o.op = .call { callee := .builtin .copy, args := #[d, s], argTypes := #[28, 28] })
    (k : Nat) (g off dLen dCap : Nat) (hd : a.eval d = .slice (some ⟨g, off, none⟩) dLen dCap) (A : Option Addr) (m c : Nat) (hs : a.eval s = .slice A m c) (ys : List Int) (hr : Row w A m ys)
    (hk : Nat.min m dLen = k) (cur : Array Value) (t : TypeId) (hg : Has w g t cur) (hfit : off + k ≤ cur.size)
    (h : K (a.put o.dst (goInt (k : Int))) (w.setRow g (cur.toList.take off ++ (nums (ys.take k) ++ cur.toList.drop (off + k))).toArray)) :
    if Region.wanted o (yielded ops a.tmps) = true then Oper.wp Try.prog o a w K Q else E := by
  have hw : Region.wanted o (yielded ops a.tmps) = true := by simp [Region.wanted, hgd]
  rw [if_pos hw]
  subst hk
  have hl : (ys.take (Nat.min m dLen)).length = Nat.min m dLen := by
    rw [List.length_take, hr.1]; exact Nat.min_eq_left (Nat.min_le_left _ _)
  by_cases h0 : Nat.min m dLen = 0
  · have hrun := run_copy_none (P := Try.prog) w 28 28 o.type 5 (some ⟨g, off, none⟩) A dLen dCap m c Try.underlying28 (by kernel_rfl) h0
    rw [h0] at h
    have e : (cur.toList.take off ++ (nums (ys.take 0) ++ cur.toList.drop (off + 0))).toArray = cur := by simp [nums]
    rw [e, setRow_self w g cur t (0, 0) hg] at h
    unfold Oper.wp
    simp [execOp, ho, resolve, invoke, builtin, hd, hs, hrun, Result.andThen]
    exact h
  · have hm : Nat.min m dLen ≤ m := Nat.min_le_left _ _
    have hr2 := row_upto hr (Nat.min m dLen) hm
    obtain ⟨b, off2, rfl, _, _⟩ := row_open hr2 (by omega)
    have hrun := run_copy_row (P := Try.prog) w 28 28 o.type 5 g off dLen dCap ⟨b, off2, none⟩ m c cur t (nums (ys.take (Nat.min m dLen))) Try.underlying28 (by kernel_rfl) hg (by rw [nums_len, hl]) (row_cells hr2) (by rw [nums_len, hl]; exact hfit) (nums_one _)
    rw [nums_len, hl] at hrun
    unfold Oper.wp
    simp [execOp, ho, resolve, invoke, builtin, hd, hs, hrun, Result.andThen]
    exact h

theorem num_k {p T : Nat} {zs : List Int} (k n : Nat) (s : Int) (hs : cutN s 8 = n) (h0 : 0 < n) (w : World) (hS : Rd w p T (St zs k)) :
    Calls Try.prog 33 #[.pointer (some ⟨p, 0, none⟩), .int .i64 s] w (GivesN (stN zs k n) (RdTo p T (St zs (k + n)) w)) := by
  have h := num_any s w hS
  rw [hs, st_aft zs k n h0] at h
  exact h
theorem raw_k {p T : Nat} {zs : List Int} (k n : Nat) (s : Int) (hs : cutN s 1000 = n) (h0 : 0 < n) (w : World) (hS : Rd w p T (St zs k)) :
    Calls Try.prog 45 #[.pointer (some ⟨p, 0, none⟩), .int .i64 s] w (GivesR (got (St zs k) n) w (RdTo p T (St zs (k + n)) w)) := by
  have h := raw_any s w hS
  rw [hs, st_aft zs k n h0] at h
  exact h
theorem rnum_k {p T : Nat} {zs : List Int} (k n : Nat) (s : Int) (hs : cutN s 8 = n) (h0 : 0 < n) (w : World) (hS : Rr w p T (St zs k)) :
    Calls Try.prog 23 #[.pointer (some ⟨p, 0, none⟩), .int .i64 s] w (GivesN (stN zs k n) (RrTo p T (St zs (k + n)) w)) := by
  have h := rnum_any s w hS
  rw [hs, st_aft zs k n h0] at h
  exact h
theorem rraw_k {p T : Nat} {zs : List Int} (k n : Nat) (s : Int) (hs : cutN s 1000 = n) (h0 : 0 < n) (w : World) (hS : Rr w p T (St zs k)) :
    Calls Try.prog 36 #[.pointer (some ⟨p, 0, none⟩), .int .i64 s] w (GivesR (got (St zs k) n) w (RrTo p T (St zs (k + n)) w)) := by
  have h := rraw_any s w hS
  rw [hs, st_aft zs k n h0] at h
  exact h
theorem cut8n4 : cutN 4 8 = 4 := by decide
theorem cut8n1 : cutN 1 8 = 1 := by decide
theorem cutn32 : cutN 32 1000 = 32 := by decide
theorem Rd.at {w : World} {p T : Nat} {S : Rs} (h : Rd w p T S) : p < w.heap.size := by
  obtain ⟨_, _, _, A, c, h4, _⟩ := h
  exact h4.size
theorem Rr.at {w : World} {p T : Nat} {S : Rs} (h : Rr w p T S) : p < w.heap.size := by
  obtain ⟨_, _, _, A, n, c, zs, h4, _⟩ := h
  exact h4.size
theorem im_set0 (i : Im) (v : Int) : i.cells.setIfInBounds 0 (.int .i64 v) = Im.cells ⟨v, i.size, i.dig⟩ := by simp [Im.cells, Im.list]
theorem im_set1 (i : Im) (v : Int) : i.cells.setIfInBounds 1 (.int .i64 v) = Im.cells ⟨i.ver, v, i.dig⟩ := by simp [Im.cells, Im.list]
/-- A digest is copied into an image that has none. -/
theorem im_copy (v n : Int) (ys : List Int) (h : ys.length ≤ 32) : ((Im.cells ⟨v, n, List.replicate 32 0⟩).toList.take 2 ++ (nums (ys.take ys.length) ++ (Im.cells ⟨v, n, List.replicate 32 0⟩).toList.drop (2 + ys.length))).toArray = Im.cells ⟨v, n, rawL ys 32⟩ := by
  have e1 : (Im.cells ⟨v, n, List.replicate 32 0⟩).toList.take 2 = [Value.int .i64 v, Value.int .i64 n] := rfl
  have e3 : ∀ r : List Int, (Im.cells ⟨v, n, r⟩).toList.drop (2 + ys.length) = (nums r).drop ys.length := by
    intro r
    rw [Nat.add_comm]
    rfl
  have e2 : (nums (List.replicate 32 0)).drop ys.length = nums (List.replicate (32 - ys.length) 0) := by
    simp only [nums, List.map_replicate, List.drop_replicate]
  rw [e3]
  rw [e1, e2, List.take_of_length_le (Nat.le_refl _)]
  simp only [Im.cells, Im.list, rawL]
  rw [List.take_of_length_le h, nums_app]
  rfl
/-- Two images of the call's own, the second with what was read so far; and the reader. -/
def RI (w0 : World) (p T k : Nat) (zs : List Int) (i : Im) (w : World) : Prop :=
  Rd w p T (St zs k) ∧ Has w (w0.heap.size + 1) 24 i.cells ∧ Has w w0.heap.size 24 zeroI.cells ∧ Only (fun b => b = p) w0 w ∧ p < w0.heap.size ∧ T ≤ p
theorem ri_start {w0 : World} {p T k : Nat} {zs : List Int} (h : Rd w0 p T (St zs k)) : RI w0 p T k zs zeroI ((w0.alloc (.cells zeroI.cells 24)).alloc (.cells zeroI.cells 24)) := by
  have b1 : Below w0.heap.size w0 (w0.alloc (.cells zeroI.cells 24)) := (Below.refl _ _).alloc (Nat.le_refl _) _
  have b2 : Below w0.heap.size w0 ((w0.alloc (.cells zeroI.cells 24)).alloc (.cells zeroI.cells 24)) := b1.alloc (by simp) _
  have h2 := has_new (w0.alloc (.cells zeroI.cells 24)) 24 zeroI.cells
  rw [World.size_alloc] at h2
  exact ⟨h.only (P := fun _ => False) (Only.of_below b2) (fun b hb => hb.elim), h2, (has_new w0 24 zeroI.cells).more _, Only.of_below b2, h.at, h.2.1⟩
theorem ri_call {w0 w w' : World} {p T k k' : Nat} {zs : List Int} {i : Im} (h : RI w0 p T k zs i w) (hc : RdTo p T (St zs k') w w') : RI w0 p T k' zs i w' := by
  obtain ⟨h1, h2, h3, h4, h5, h6⟩ := h
  exact ⟨hc.1, h2.only hc.2 (by omega), h3.only hc.2 (by omega), h4.trans hc.2, h5, h6⟩
theorem ri_drew {w0 w : World} {p T k : Nat} {zs : List Int} {i : Im} (h : RI w0 p T k zs i w) : RI w0 p T k zs i w.drew := by
  obtain ⟨h1, h2, h3, h4, h5, h6⟩ := h
  have b : Below w.heap.size w w.drew := (Below.refl _ _).drew
  exact ⟨h1.only (P := fun _ => False) (Only.of_below b) (fun b hb => hb.elim), h2.kept b, h3.kept b, h4.below b, h5, h6⟩
theorem ri_put {w0 w : World} {p T k : Nat} {zs : List Int} {i i' : Im} (h : RI w0 p T k zs i w) (j : Nat) (v : Value) (e : i.cells.setIfInBounds j v = i'.cells) : RI w0 p T k zs i' (w.setCell ⟨w0.heap.size + 1, j, none⟩ v) := by
  obtain ⟨h1, h2, h3, h4, h5, h6⟩ := h
  have o : Only (fun b => b = w0.heap.size + 1) w (w.setCell ⟨w0.heap.size + 1, j, none⟩ v) := (Only.refl (fun b => b = w0.heap.size + 1) w).setCell (q := ⟨w0.heap.size + 1, j, none⟩) rfl v
  have h2' := h2.put j v
  rw [e] at h2'
  exact ⟨h1.only o (fun b e => by omega), h2', h3.only o (by omega), h4.setNew (by simp) v, h5, h6⟩
theorem ri_row {w0 w : World} {p T k : Nat} {zs : List Int} {i i' : Im} {cs : Array Value} (h : RI w0 p T k zs i w) (e : cs = i'.cells) : RI w0 p T k zs i' (w.setRow (w0.heap.size + 1) cs) := by
  obtain ⟨h1, h2, h3, h4, h5, h6⟩ := h
  subst e
  have o : Only (fun b => b = w0.heap.size + 1) w (w.setRow (w0.heap.size + 1) i'.cells) := (Only.refl (fun b => b = w0.heap.size + 1) w).setRow (b := w0.heap.size + 1) rfl _
  exact ⟨h1.only o (fun b e => by omega), setRow_heap _ _ _ _ _ _ h2, h3.only o (by omega), ⟨o.os.trans h4.os, o.tape.trans h4.tape, o.output.trans h4.output, Nat.le_trans h4.size o.size, fun b hb hp => (o.block b (Nat.lt_of_lt_of_le hb h4.size) (by omega)).trans (h4.block b hb hp)⟩, h5, h6⟩
theorem ri_end {w0 w : World} {p T k : Nat} {zs : List Int} {i : Im} (h : RI w0 p T k zs i w) (cs : Array Value) : RdTo p T (St zs k) w0 (w.setRow w0.heap.size cs) := by
  obtain ⟨h1, h2, h3, h4, h5, h6⟩ := h
  have o : Only (fun b => b = w0.heap.size) w (w.setRow w0.heap.size cs) := (Only.refl (fun b => b = w0.heap.size) w).setRow (b := w0.heap.size) rfl _
  exact ⟨h1.only o (fun b e => by omega), ⟨o.os.trans h4.os, o.tape.trans h4.tape, o.output.trans h4.output, Nat.le_trans h4.size o.size, fun b hb hp => (o.block b (Nat.lt_of_lt_of_le hb h4.size) (by omega)).trans (h4.block b hb hp)⟩⟩
/-- What readImage leaves. -/
def ReadI (zs : List Int) (p T k : Nat) (w : World) (e : Ending) (w' : World) : Prop := e = .returned (.agg (imgS zs k).cells) ∧ RdTo p T (St zs (k + 40)) w w'
set_option maxRecDepth 100000 in
set_option maxHeartbeats 4000000 in
theorem readImage_any {p T k : Nat} {zs : List Int} (w : World) (hb : Byt zs) (hS : Rd w p T (St zs k)) :
    Calls Try.prog 34 #[.pointer (some ⟨p, 0, none⟩)] w (ReadI zs p T k w) := by
  have hz24 := zero24_run
  have HB0 := Lib.hid (ri_start hS)
  have HV := Lib.hid (num_k k 4 4 cut8n4 (by omega) _ HB0.out.1)
  have HOK := Lib.hid (imgS_ok hb k)
  have HGL := Lib.hid (got_len (St zs (k + 8)) 32)
  clear hS
  go_enter Try.func34, Try.ntmps34
  go_wp2_with (first
    | (go_at_call 33; (with_reducible refine HV.out.mono ?_); rintro e w1 ⟨rfl, t1⟩; clear HV; have HB1 := Lib.hid (ri_call HB0.out t1); clear HB0 t1; have q1 : w1.cell? ⟨w.heap.size + 1, 0, none⟩ = some (.int .i64 0) := HB1.out.2.1.at 0; have f1 := HB1.out.2.1.soft 0; have HB2 := Lib.hid (ri_put HB1.out 0 (.int .i64 (stN zs k 4)) (im_set0 _ _)); clear HB1; have HX := Lib.hid (num_k (k + 4) 4 4 cut8n4 (by omega) _ HB2.out.1))
    | (go_at_call 33; (with_reducible refine HX.out.mono ?_); rintro e w3 ⟨rfl, t3⟩; clear HX; have HB3 := Lib.hid (ri_call HB2.out t3); clear HB2 t3; have q3 : w3.cell? ⟨w.heap.size + 1, 1, none⟩ = some (.int .i64 0) := HB3.out.2.1.at 1; have f3 := HB3.out.2.1.soft 1; have HB4 := Lib.hid (ri_put HB3.out 1 (.int .i64 (stN zs (k + 4) 4)) (im_set1 _ _)); clear HB3))
  generalize hW6 : w3.setCell ⟨w.heap.size + 1, 1, none⟩ (.int .i64 (stN zs (k + 4) 4)) = w6 at *
  clear hW6 q1 f1 q3 f3
  have HB7 := Lib.hid (ri_drew HB4.out)
  have HR7 := Lib.hid (raw_k (k + 4 + 4) 32 32 cutn32 (by omega) _ HB7.out.1)
  have HS7 := Lib.hid (Only.refl (fun b => b = p ∨ b = w.heap.size + 1) w6.drew)
  obtain ⟨ys, hys⟩ : ∃ ys, got (St zs (k + 8)) 32 = ys := ⟨_, rfl⟩
  have HYS := Lib.hid hys
  have HYL := Lib.hid (show ys.length ≤ 32 by rw [← hys]; exact HGL.out)
  rw [show k + 4 + 4 = k + 8 by omega, hys] at HR7
  clear hys HGL
  refine wp_region_held_drew (S := fun W => Only (fun b => b = p ∨ b = w.heap.size + 1) w6.drew W) (by kernel_rfl) HS7.out ?_
  intro _
  refine wpAnyH_take (i := 0) (v := .pointer (some ⟨w.heap.size + 1, 2, none⟩)) rfl (by kernel_rfl) (by kernel_rfl) (by kernel_rfl) (fun _ _ _ h => h) (Or.inl ⟨by rfl, (fun W _ => by go_simp)⟩) HS7.out ?_
  simp only [List.getElem_toArray, List.getElem_cons_succ, List.getElem_cons_zero, Act.put, List.setIfInBounds_toArray, List.set_cons_zero, List.set_cons_succ]
  refine wpAnyH_take (i := 1) (v := .slice (some ⟨w.heap.size + 1, 2, none⟩) 32 32) rfl (by kernel_rfl) (by kernel_rfl) (by kernel_rfl) (fun _ _ _ h => h) (Or.inl ⟨by rfl, (fun W _ => by go_simp)⟩) HS7.out ?_
  simp only [List.getElem_toArray, List.getElem_cons_succ, List.getElem_cons_zero, Act.put, List.setIfInBounds_toArray, List.set_cons_zero, List.set_cons_succ]
  refine wpAnyH_take (i := 2) (v := .pointer (some ⟨p, 0, none⟩)) rfl (by kernel_rfl) (by kernel_rfl) (by kernel_rfl) (fun _ _ _ h => h) (Or.inl ⟨by rfl, (fun W _ => by go_simp)⟩) HS7.out ?_
  simp only [List.getElem_toArray, List.getElem_cons_succ, List.getElem_cons_zero, Act.put, List.setIfInBounds_toArray, List.set_cons_zero, List.set_cons_succ]
  refine wpAnyH_ready (rs := [3]) (by kernel_rfl) (by simp) ?_
  refine AllReadyH.cons rfl (fun K hK => ?_) AllReadyH.nil
  go_simp
  refine (HR7.out).mono ?_
  rintro e w8 ⟨v8, rfl, o8, t8⟩; have HB8 := Lib.hid (ri_call HB7.out t8); have HS8 := Lib.hid (show Only (fun b => b = p ∨ b = w.heap.size + 1) w6.drew w8 from t8.2.mono (fun b e => .inl e)); obtain ⟨A8, c8, rfl, hc8, r8, _⟩ := o8.form; clear o8 t8
  refine hK.out _ _ HS8.out (fun _ => ?_)
  clear hK K
  refine wpAnyH_ready (rs := [4]) (by kernel_rfl) (by simp) ?_
  refine AllReadyH.cons rfl (fun K hK => ?_) AllReadyH.nil
  refine step_cp rfl (.tmp 11) (.tmp 13) rfl ys.length (w.heap.size + 1) 2 32 32 rfl A8 ys.length c8 rfl ys r8 (Nat.min_eq_left HYL.out) _ 24 HB8.out.2.1 (by have := HYL.out; have hz : zeroI.dig.length = 32 := List.length_replicate; simp [Im.cells, Im.list, nums, hz]; omega) ?_
  refine hK.out _ _ (HS8.out.setRow (.inr rfl) _) (fun _ => ?_)
  clear hK K
  refine wpAnyH_done (by kernel_rfl) ?_ _
  have HB9 : Hid (RI w p T (k + 8 + 32) zs (imgS zs k) (w8.setRow (w.heap.size + 1) (List.take 2 (Im.cells ⟨stN zs k 4, stN zs (k + 4) 4, zeroI.dig⟩).toList ++ (nums (List.take ys.length ys) ++ List.drop (2 + ys.length) (Im.cells ⟨stN zs k 4, stN zs (k + 4) 4, zeroI.dig⟩).toList)).toArray)) := Lib.hid (ri_row HB8.out ((im_copy _ _ ys HYL.out).trans (by unfold imgS; rw [HYS.out])))
  generalize hW9 : w8.setRow (w.heap.size + 1) (List.take 2 (Im.cells ⟨stN zs k 4, stN zs (k + 4) 4, zeroI.dig⟩).toList ++ (nums (List.take ys.length ys) ++ List.drop (2 + ys.length) (Im.cells ⟨stN zs k 4, stN zs (k + 4) 4, zeroI.dig⟩).toList)).toArray = w9 at *
  have h9 : Has w9 (w.heap.size + 1) 24 (imgS zs k).cells := HB9.out.2.1
  have g9 : Has w9 w.heap.size 24 zeroI.cells := HB9.out.2.2.1
  have fin := ri_end HB9.out (imgS zs k).cells
  clear HB4 HB7 HS7 HB8
  go_wp2_with (first
    | (refine wpList_load_row rfl 24 _ rfl (w.heap.size + 1) rfl 24 _ (0, 0) _ h9 Try.underlying24 rfl (size24 HOK.out) ?_)
    | (refine wpList_store_row rfl 24 _ _ rfl w.heap.size (imgS zs k).cells rfl rfl 24 _ g9 (size24 HOK.out) (old24 zeroI_ok HOK.out) (im_all _) ?_))
  exact bodyPost_ret (results_cell_row rfl _ _ w.heap.size 24 (imgS zs k).cells (0, 0) _ rfl (setRow_heap _ _ _ _ _ _ g9) Try.underlying24 rfl (size24 HOK.out)) rfl ⟨rfl, fin⟩
end Go.Proofs.Ythkgbcchnneloaa
