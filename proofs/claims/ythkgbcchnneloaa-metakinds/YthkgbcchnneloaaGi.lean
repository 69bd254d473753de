/-
  How an image is read, the document's getImage; conditions: the row reads as bytes.
-/
import Derived.Test.YthkgbcchnneloaaRi
import Derived.Deep.Cut
namespace Go.Proofs.Ythkgbcchnneloaa
open Go.RowKit
set_option linter.unusedVariables false
set_option linter.unusedSimpArgs false

/-- Two images of the call's own, at g and h; and the document's reader. -/
def GI (w0 : World) (p T k h : Nat) (zs : List Int) (i : Im) (w : World) : Prop :=
  Rr w p T (St zs k) ∧ Has w h 24 i.cells ∧ Has w w0.heap.size 24 zeroI.cells ∧ Only (fun b => b = p) w0 w ∧ p < w0.heap.size ∧ T ≤ p ∧ w0.heap.size < h
theorem gi_call {w0 w w' : World} {p T k k' h : Nat} {zs : List Int} {i : Im} (g : GI w0 p T k h zs i w) (hc : RrTo p T (St zs k') w w') : GI w0 p T k' h zs i w' := by
  obtain ⟨h1, h2, h3, h4, h5, h6, h7⟩ := g
  exact ⟨hc.1, h2.only hc.2 (by omega), h3.only hc.2 (by omega), h4.trans hc.2, h5, h6, h7⟩
theorem gi_drew {w0 w : World} {p T k h : Nat} {zs : List Int} {i : Im} (g : GI w0 p T k h zs i w) : GI w0 p T k h zs i w.drew := by
  obtain ⟨h1, h2, h3, h4, h5, h6, h7⟩ := g
  have b : Below w.heap.size w w.drew := (Below.refl _ _).drew
  exact ⟨h1.only (P := fun _ => False) (Only.of_below b) (fun b hb => hb.elim), h2.kept b, h3.kept b, h4.below b, h5, h6, h7⟩
theorem gi_row {w0 w : World} {p T k h : Nat} {zs : List Int} {i i' : Im} {cs : Array Value} (g : GI w0 p T k h zs i w) (e : cs = i'.cells) : GI w0 p T k h zs i' (w.setRow h cs) := by
  obtain ⟨h1, h2, h3, h4, h5, h6, h7⟩ := g
  subst e
  have o : Only (fun b => b = h) w (w.setRow h i'.cells) := (Only.refl (fun b => b = h) w).setRow (b := h) rfl _
  exact ⟨h1.only o (fun b e => by omega), setRow_heap _ _ _ _ _ _ h2, h3.only o (by omega), ⟨o.os.trans h4.os, o.tape.trans h4.tape, o.output.trans h4.output, Nat.le_trans h4.size o.size, fun b hb hp => (o.block b (Nat.lt_of_lt_of_le hb h4.size) (by omega)).trans (h4.block b hb hp)⟩, h5, h6, h7⟩
theorem gi_end {w0 w : World} {p T k h : Nat} {zs : List Int} {i : Im} (g : GI w0 p T k h zs i w) (cs : Array Value) : RrTo p T (St zs k) w0 (w.setRow w0.heap.size cs) := by
  obtain ⟨h1, h2, h3, h4, h5, h6, h7⟩ := g
  have o : Only (fun b => b = w0.heap.size) w (w.setRow w0.heap.size cs) := (Only.refl (fun b => b = w0.heap.size) w).setRow (b := w0.heap.size) rfl _
  exact ⟨h1.only o (fun b e => by omega), ⟨o.os.trans h4.os, o.tape.trans h4.tape, o.output.trans h4.output, Nat.le_trans h4.size o.size, fun b hb hp => (o.block b (Nat.lt_of_lt_of_le hb h4.size) (by omega)).trans (h4.block b hb hp)⟩⟩
theorem wpList_build24 {w : World} {ops : Array Oper} {rest : List Oper} {o : Oper} {a : Act} {Q : Exit → Act → World → Prop} (hg : o.guard = none) (x y : Operand) (ho : o.op = .build 24 #[(0, x), (1, y)]) (v n : Int)
    (hx : a.eval x = .int .i64 v) (hy : a.eval y = .int .i64 n) (h : wpList Try.prog ops Q rest (a.put o.dst (.agg (Im.cells ⟨v, n, List.replicate 32 0⟩))) w) : wpList Try.prog ops Q (o :: rest) a w := by
  refine wpList_build_to hg 24 _ ho _ ?_ h
  have e : (Array.map (fun (i, x) => (i, a.eval x)) #[(0, x), (1, y)]).toList = [(0, .int .i64 v), (1, .int .i64 n)] := by simp [hx, hy]
  rw [e]
  exact built24b v n
/-- What getImage leaves. -/
def GetI (zs : List Int) (p T k : Nat) (w : World) (e : Ending) (w' : World) : Prop := e = .returned (.agg (imgS zs k).cells) ∧ RrTo p T (St zs (k + 40)) w w'
set_option maxRecDepth 100000 in
set_option maxHeartbeats 4000000 in
theorem getImage_any {p T k : Nat} {zs : List Int} (w : World) (hb : Byt zs) (hS : Rr w p T (St zs k)) :
    Calls Try.prog 24 #[.pointer (some ⟨p, 0, none⟩)] w (GetI zs p T k w) := by
  have hz24 := zero24_run
  have HP := Lib.hid (show p < w.heap.size ∧ T ≤ p from ⟨hS.at, hS.2.1⟩)
  have bA : Below w.heap.size w (w.alloc (.cells zeroI.cells 24)) := (Below.refl _ _).alloc (Nat.le_refl _) _
  have D0 := Lib.hid (hS.only (P := fun _ => False) (Only.of_below bA) (fun b hb => hb.elim))
  have O0 := Lib.hid (show Only (fun b => b = p) w (w.alloc (.cells zeroI.cells 24)) from Only.of_below bA)
  have Z0 := Lib.hid (has_new w 24 zeroI.cells)
  have HV := Lib.hid (rnum_k k 4 4 cut8n4 (by omega) _ D0.out)
  have HOK := Lib.hid (imgS_ok hb k)
  have HGL := Lib.hid (got_len (St zs (k + 8)) 32)
  clear hS bA
  have HIK := Lib.hid (show Im.Ok ⟨stN zs k 4, stN zs (k + 4) 4, List.replicate 32 0⟩ from ⟨List.length_replicate, byt_rep _, i64_w64 _, i64_w64 _⟩)
  go_enter Try.func24, Try.ntmps24
  go_upto_region 2 with (first
    | (go_at_call 23; (with_reducible refine HV.out.mono ?_); rintro e w1 ⟨rfl, t1⟩; clear HV; have Z1 := Lib.hid (Has.only Z0.out t1.2 (by have := HP.out; omega)); have O1 := Lib.hid (O0.out.trans t1.2); have HX := Lib.hid (rnum_k (k + 4) 4 4 cut8n4 (by omega) _ t1.1); clear t1)
    | (go_at_call 23; (with_reducible refine HX.out.mono ?_); rintro e w3 ⟨rfl, t3⟩; clear HX; have Z3 := Lib.hid (Has.only Z1.out t3.2 (by have := HP.out; omega)); have O3 := Lib.hid (O1.out.trans t3.2); have D3 := Lib.hid t3.1; clear t3; have hn := has_new w3 24 zeroI.cells)
    | (refine wpList_build24 rfl (.tmp 5) (.tmp 7) rfl (stN zs k 4) (stN zs (k + 4) 4) rfl rfl ?_)
    | (refine wpList_row rfl 24 _ _ rfl w3.heap.size (Im.cells ⟨stN zs k 4, stN zs (k + 4) 4, List.replicate 32 0⟩) rfl rfl 24 _ hn (size24 HIK.out) (old24 zeroI_ok HIK.out) (im_all _) ?_; intro w6 hs6 on6))
  have HB4 : Hid (GI w p T (k + 4 + 4) w3.heap.size zs ⟨stN zs k 4, stN zs (k + 4) 4, List.replicate 32 0⟩ w6) := Lib.hid (by
    have hP := HP.out
    have b3 : Below w3.heap.size w3 w6 := ((Below.refl w3.heap.size w3).alloc (Nat.le_refl _) (.cells zeroI.cells 24)).trans (on6.to_below (by simp) (fun b e => by omega))
    have hz := Z3.out.size
    exact ⟨D3.out.only (P := fun _ => False) (Only.of_below b3) (fun b hb => hb.elim), hs6, Z3.out.kept b3, O3.out.below b3, hP.1, hP.2, hz⟩)
  clear hs6 on6 hn D3 O3 Z3 O1 Z1 O0 Z0 D0 HP
  have hlt : w3.heap.size ≠ w.heap.size := by have := HB4.out.2.2.2.2.2.2; omega
  obtain ⟨h, hh⟩ : ∃ h, w3.heap.size = h := ⟨_, rfl⟩
  rw [hh] at HB4 hlt ⊢
  clear hh
  have HB7 := Lib.hid (gi_drew HB4.out)
  have HR7 := Lib.hid (rraw_k (k + 4 + 4) 32 32 cutn32 (by omega) _ HB7.out.1)
  have HS7 := Lib.hid (Only.refl (fun b => b = p ∨ b = h) w6.drew)
  obtain ⟨ys, hys⟩ : ∃ ys, got (St zs (k + 8)) 32 = ys := ⟨_, rfl⟩
  have HYS := Lib.hid hys
  have HYL := Lib.hid (show ys.length ≤ 32 by rw [← hys]; exact HGL.out)
  rw [show k + 4 + 4 = k + 8 by omega, hys] at HR7
  clear hys HGL
  refine wp_region_held_drew (S := fun W => Only (fun b => b = p ∨ b = h) w6.drew W) (by kernel_rfl) HS7.out ?_
  intro _
  refine wpAnyH_take (i := 0) (v := .pointer (some ⟨h, 2, none⟩)) rfl (by kernel_rfl) (by kernel_rfl) (by kernel_rfl) (fun _ _ _ h => h) (Or.inl ⟨by rfl, (fun W _ => by go_simp)⟩) HS7.out ?_
  simp only [List.getElem_toArray, List.getElem_cons_succ, List.getElem_cons_zero, Act.put, List.setIfInBounds_toArray, List.set_cons_zero, List.set_cons_succ]
  refine wpAnyH_take (i := 1) (v := .slice (some ⟨h, 2, none⟩) 32 32) rfl (by kernel_rfl) (by kernel_rfl) (by kernel_rfl) (fun _ _ _ h => h) (Or.inl ⟨by rfl, (fun W _ => by go_simp)⟩) HS7.out ?_
  simp only [List.getElem_toArray, List.getElem_cons_succ, List.getElem_cons_zero, Act.put, List.setIfInBounds_toArray, List.set_cons_zero, List.set_cons_succ]
  refine wpAnyH_take (i := 2) (v := .pointer (some ⟨p, 0, none⟩)) rfl (by kernel_rfl) (by kernel_rfl) (by kernel_rfl) (fun _ _ _ h => h) (Or.inl ⟨by rfl, (fun W _ => by go_simp)⟩) HS7.out ?_
  simp only [List.getElem_toArray, List.getElem_cons_succ, List.getElem_cons_zero, Act.put, List.setIfInBounds_toArray, List.set_cons_zero, List.set_cons_succ]
  refine wpAnyH_ready (rs := [3]) (by kernel_rfl) (by simp) ?_
  refine AllReadyH.cons rfl (fun K hK => ?_) AllReadyH.nil
  go_simp
  refine (HR7.out).mono ?_
  rintro e w8 ⟨v8, rfl, o8, t8⟩; have HB8 := Lib.hid (gi_call HB7.out t8); have HS8 := Lib.hid (show Only (fun b => b = p ∨ b = h) w6.drew w8 from t8.2.mono (fun b e => .inl e)); obtain ⟨A8, c8, rfl, hc8, r8, _⟩ := o8.form; clear o8 t8
  refine hK.out _ _ HS8.out (fun _ => ?_)
  clear hK K
  refine wpAnyH_ready (rs := [4]) (by kernel_rfl) (by simp) ?_
  refine AllReadyH.cons rfl (fun K hK => ?_) AllReadyH.nil
  refine step_cp rfl (.tmp 10) (.tmp 12) rfl ys.length h 2 32 32 rfl A8 ys.length c8 rfl ys r8 (Nat.min_eq_left HYL.out) _ 24 HB8.out.2.1 (by have := HYL.out; simp [Im.cells, Im.list, nums]; omega) ?_
  refine hK.out _ _ (HS8.out.setRow (.inr rfl) _) (fun _ => ?_)
  clear hK K
  refine wpAnyH_done (by kernel_rfl) ?_ _
  have HB9 := Lib.hid (gi_row (i' := imgS zs k) HB8.out ((im_copy _ _ ys HYL.out).trans (by unfold imgS; rw [HYS.out])))
  generalize hW9 : w8.setRow h (List.take 2 (Im.cells ⟨stN zs k 4, stN zs (k + 4) 4, List.replicate 32 0⟩).toList ++ (nums (List.take ys.length ys) ++ List.drop (2 + ys.length) (Im.cells ⟨stN zs k 4, stN zs (k + 4) 4, List.replicate 32 0⟩).toList)).toArray = w9 at *
  have h9 : Has w9 h 24 (imgS zs k).cells := HB9.out.2.1
  have g9 : Has w9 w.heap.size 24 zeroI.cells := HB9.out.2.2.1
  have fin := gi_end HB9.out (imgS zs k).cells
  clear HB4 HB7 HS7 HB8
  go_wp2_with (first
    | (refine wpList_load_row rfl 24 _ rfl h rfl 24 _ (0, 0) _ h9 Try.underlying24 rfl (size24 HOK.out) ?_)
    | (refine wpList_store_row rfl 24 _ _ rfl w.heap.size (imgS zs k).cells rfl rfl 24 _ g9 (size24 HOK.out) (old24 zeroI_ok HOK.out) (im_all _) ?_))
  exact bodyPost_ret (results_cell_row rfl _ _ w.heap.size 24 (imgS zs k).cells (0, 0) _ rfl (setRow_heap _ _ _ _ _ _ g9) Try.underlying24 rfl (size24 HOK.out)) rfl ⟨rfl, fin⟩
end Go.Proofs.Ythkgbcchnneloaa
