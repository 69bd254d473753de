/-
  The walk of the law AreaPlays: what any row of calls to two areas of one flash answers, and every byte and erase; conditions: at most six sectors and sixty calls (more the law lets by).
-/
import Derived.Test.YtgignmjojlolfaaDoorPls
namespace Go.Proofs.YtgignmjojlolfaaDoor
open Go.RowKit
set_option linter.unusedVariables false
set_option linter.unusedSimpArgs false
set_option maxRecDepth 100000 in
set_option maxHeartbeats 8000000 in
theorem plays_within (n : Nat) (r1 f1 l1 r2 f2 l2 bu : Int) (a : Option Addr) (len cap : Nat) (w : World) (hacts : Acts w a len) (h6 : n ≤ 6) (h60 : len ≤ 60) (hi : I64 f1 ∧ I64 l1 ∧ I64 f2 ∧ I64 l2 ∧ I64 bu) (ht : Sha.Tabs w) :
    Calls Tryd.prog 3 #[.int .i64 (n : Int), .agg (capCells r1 f1 l1), .agg (capCells r2 f2 l2), .int .i64 bu, .slice a len cap] w fun e w' => e = .returned (.bool true) ∧ Below w.heap.size w w' := by
  have d0 : decide ((n : Int) < 0) = false := by simp
  have d1 : ¬ (6 : Int) < (n : Int) := by omega
  have d2 : decide ((6 : Int) < (n : Int)) = false := by simpa using d1
  have d3 : decide (60 < len) = false := by simp; omega
  have d4 : ¬ (60 : Int) < (len : Int) := by omega
  have HACTS := Lib.hid hacts
  have HT := Lib.hid ht
  have HI := Lib.hid hi
  have HSE := Lib.hid (sect_nat (show n ≤ 400 by omega))
  have hbw : Below w.heap.size w ((w.alloc (.cells #[.int .i64 r1, .int .i64 f1, .int .i64 l1] 23)).alloc (.cells #[.int .i64 r2, .int .i64 f2, .int .i64 l2] 23)) := ((Below.refl _ w).alloc (Nat.le_refl _) _).alloc (by simp) _
  have hp1 : Has ((w.alloc (.cells #[.int .i64 r1, .int .i64 f1, .int .i64 l1] 23)).alloc (.cells #[.int .i64 r2, .int .i64 f2, .int .i64 l2] 23)) w.heap.size 23 (capCells r1 f1 l1) := (has_new w 23 _).more _
  have hp2 : Has ((w.alloc (.cells #[.int .i64 r1, .int .i64 f1, .int .i64 l1] 23)).alloc (.cells #[.int .i64 r2, .int .i64 f2, .int .i64 l2] 23)) (w.heap.size + 1) 23 (capCells r2 f2 l2) := by
    have := has_new (w.alloc (.cells #[.int .i64 r1, .int .i64 f1, .int .i64 l1] 23)) 23 #[.int .i64 r2, .int .i64 f2, .int .i64 l2]
    rw [show (w.alloc (.cells #[.int .i64 r1, .int .i64 f1, .int .i64 l1] 23)).heap.size = w.heap.size + 1 by simp] at this
    exact this
  have HBW := Lib.hid hbw
  have HP1 := Lib.hid hp1
  have HP2 := Lib.hid hp2
  clear hacts ht hi hbw hp1 hp2
  unfold capCells
  go_enter Tryd.func3, Tryd.ntmps3
  go_wp2_with (first
    | (go_at_call 5; refine (alive_any _).mono ?_; rintro e W1 ⟨rfl, H1⟩; have N1 := Lib.hid (new_any (n : Int) W1))
    | (go_at_call 6; (with_reducible refine N1.out.mono ?_); rintro e W2 ⟨g, m, k, rfl, hg, hm, hk, f2', b2⟩; rw [HSE.out] at f2'; have N2 := Lib.hid (rnew_any (n : Int) W2))
    | (go_at_call 7; (with_reducible refine N2.out.mono ?_); rintro e W3 ⟨gr, mr, kr, rfl, hgr, hmr, hkr, f3', b3⟩; rw [HSE.out] at f3'))
  have b13 := b2.trans (b3.mono b2.size)
  have B3 := Lib.hid (HBW.out.trans ((H1.trans (b13.mono H1.size)).mono HBW.out.size))
  have Q1 := Lib.hid (HP1.out.kept (H1.trans (b13.mono H1.size)))
  have Q2 := Lib.hid (HP2.out.kept (H1.trans (b13.mono H1.size)))
  have FF := Lib.hid ((f2'.kept b3).raise rfl b3.size)
  have RR := Lib.hid f3'
  have HAP := Lib.hid (show (∀ b, In3 g m k b → w.heap.size ≤ b ∧ b < W3.heap.size) ∧ (∀ b, In3 gr mr kr b → w.heap.size ≤ b ∧ b < W3.heap.size) ∧ ∀ b, In3 g m k b → ¬ In3 gr mr kr b by
    have i2 := f2'.in
    have i3 := f3'.in
    have s0 := HBW.out.size
    have s1 := H1.size
    have s2 := b2.size
    have s3 := b3.size
    have l2 : ∀ b, In3 g m k b → W1.heap.size ≤ b := by rintro b (rfl | rfl | rfl) <;> assumption
    have l3 : ∀ b, In3 gr mr kr b → W2.heap.size ≤ b := by rintro b (rfl | rfl | rfl) <;> assumption
    refine ⟨fun b h => ?_, fun b h => ?_, fun b h1 h2 => ?_⟩
    · have := i2 b h; have := l2 b h; omega
    · have := i3 b h; have := l3 b h; omega
    · have := i2 b h1; have := l3 b h2; omega)
  clear b13 f2' f3' b2 b3 H1 N1 N2 hg hm hk hgr hmr hkr HBW HP1 HP2 HSE

  have HS6 := Lib.hid (show Has W3.drew w.heap.size 23 (capCells r1 f1 l1) ∧ Has W3.drew (w.heap.size + 1) 23 (capCells r2 f2 l2) from ⟨Q1.out, Q2.out⟩)
  have N1 := newArea_any r1 f1 l1 bu W3.drew (FF.out.kept ((Below.refl _ W3).drew)) ⟨HI.out.1, HI.out.2.1, HI.out.2.2.2.2⟩
  rw [fresh_wear] at N1
  have N1' := Lib.hid N1
  clear N1
  refine wp_region_held_drew (S := fun W => Has W w.heap.size 23 (capCells r1 f1 l1) ∧ Has W (w.heap.size + 1) 23 (capCells r2 f2 l2)) (by kernel_rfl) HS6.out ?_
  intro _
  refine wpAnyH_take (i := 0) (v := .pointer (some ⟨g, 0, none⟩)) rfl (by kernel_rfl) (by kernel_rfl) (by kernel_rfl) (fun _ _ _ h => h) (Or.inl ⟨by rfl, (fun W _ => by go_simp)⟩) HS6.out ?_
  simp only [List.getElem_toArray, List.getElem_cons_succ, List.getElem_cons_zero, Act.put, List.setIfInBounds_toArray, List.set_cons_zero, List.set_cons_succ]
  refine wpAnyH_take (i := 1) (v := .agg #[.int .i64 r1, .int .i64 f1, .int .i64 l1]) rfl (by kernel_rfl) (by kernel_rfl) (by kernel_rfl) (fun _ _ _ h => h) (Or.inl ⟨by rfl, (fun W hW => by obtain ⟨q0, q1, q2⟩ := cap_cells hW.1; go_simp)⟩) HS6.out ?_
  simp only [List.getElem_toArray, List.getElem_cons_succ, List.getElem_cons_zero, Act.put, List.setIfInBounds_toArray, List.set_cons_zero, List.set_cons_succ]
  refine wpAnyH_take (i := 2) (v := .int .i64 bu) rfl (by kernel_rfl) (by kernel_rfl) (by kernel_rfl) (fun _ _ _ h => h) (Or.inl ⟨by rfl, (fun W _ => by go_simp)⟩) HS6.out ?_
  simp only [List.getElem_toArray, List.getElem_cons_succ, List.getElem_cons_zero, Act.put, List.setIfInBounds_toArray, List.set_cons_zero, List.set_cons_succ]
  refine wpAnyH_take (i := 4) (v := .pointer (some ⟨g, 0, none⟩)) rfl (by kernel_rfl) (by kernel_rfl) (by kernel_rfl) (fun _ _ _ h => h) (Or.inl ⟨by rfl, (fun W _ => by go_simp)⟩) HS6.out ?_
  simp only [List.getElem_toArray, List.getElem_cons_succ, List.getElem_cons_zero, Act.put, List.setIfInBounds_toArray, List.set_cons_zero, List.set_cons_succ]
  refine wpAnyH_take (i := 5) (v := .agg #[.int .i64 r2, .int .i64 f2, .int .i64 l2]) rfl (by kernel_rfl) (by kernel_rfl) (by kernel_rfl) (fun _ _ _ h => h) (Or.inl ⟨by rfl, (fun W hW => by obtain ⟨q0, q1, q2⟩ := cap_cells hW.2; go_simp)⟩) HS6.out ?_
  simp only [List.getElem_toArray, List.getElem_cons_succ, List.getElem_cons_zero, Act.put, List.setIfInBounds_toArray, List.set_cons_zero, List.set_cons_succ]
  refine wpAnyH_take (i := 6) (v := .int .i64 bu) rfl (by kernel_rfl) (by kernel_rfl) (by kernel_rfl) (fun _ _ _ h => h) (Or.inl ⟨by rfl, (fun W _ => by go_simp)⟩) HS6.out ?_
  simp only [List.getElem_toArray, List.getElem_cons_succ, List.getElem_cons_zero, Act.put, List.setIfInBounds_toArray, List.set_cons_zero, List.set_cons_succ]
  refine wpAnyH_ready (rs := [3]) (by kernel_rfl) (by simp) ?_
  refine AllReadyH.cons rfl (fun K hK => ?_) AllReadyH.nil
  go_simp
  refine (N1'.out).mono ?_
  rintro e w4 ⟨x0, rfl, hx0, a4, b4⟩
  have HS4 := Lib.hid (show Has w4 w.heap.size 23 (capCells r1 f1 l1) ∧ Has w4 (w.heap.size + 1) 23 (capCells r2 f2 l2) from ⟨HS6.out.1.kept b4, HS6.out.2.kept b4⟩)
  have b34 := ((Below.refl _ W3).drew).trans b4
  have N2 := newArea_any r2 f2 l2 bu w4 (FF.out.kept b34) ⟨HI.out.2.2.1, HI.out.2.2.2.1, HI.out.2.2.2.2⟩
  rw [fresh_wear] at N2
  have N2' := Lib.hid N2
  clear N2
  refine hK.out _ _ HS4.out (fun _ => ?_)
  clear hK K
  refine wpAnyH_ready (rs := [7]) (by kernel_rfl) (by simp) ?_
  refine AllReadyH.cons rfl (fun K hK => ?_) AllReadyH.nil
  go_simp
  refine (N2'.out).mono ?_
  rintro e w5 ⟨x1, rfl, hx1, a5, b5⟩
  have HS5 := Lib.hid (show Has w5 w.heap.size 23 (capCells r1 f1 l1) ∧ Has w5 (w.heap.size + 1) 23 (capCells r2 f2 l2) from ⟨HS4.out.1.kept b5, HS4.out.2.kept b5⟩)
  refine hK.out _ _ HS5.out (fun _ => ?_)
  clear hK K
  have HS8 := Lib.hid (show Has (w5.alloc (.cells #[.pointer (some ⟨x0, 0, none⟩), .pointer (some ⟨x1, 0, none⟩)] 30)) w.heap.size 23 (capCells r1 f1 l1) ∧ Has (w5.alloc (.cells #[.pointer (some ⟨x0, 0, none⟩), .pointer (some ⟨x1, 0, none⟩)] 30)) (w.heap.size + 1) 23 (capCells r2 f2 l2) from ⟨HS5.out.1.more _, HS5.out.2.more _⟩)
  refine wpAnyH_ready (rs := [8]) (by kernel_rfl) (by simp) ?_
  refine AllReadyH.cons rfl (fun K hK => ?_) AllReadyH.nil
  go_simp
  refine hK.out _ _ HS8.out (fun _ => ?_)
  clear hK K
  refine wpAnyH_take (i := 9) (v := .slice (some ⟨w5.heap.size, 0, none⟩) 2 2) rfl (by kernel_rfl) (by kernel_rfl) (by kernel_rfl) (fun _ _ _ h => h) (Or.inl ⟨by rfl, (fun W _ => by go_simp)⟩) HS8.out ?_
  simp only [List.getElem_toArray, List.getElem_cons_succ, List.getElem_cons_zero, Act.put, List.setIfInBounds_toArray, List.set_cons_zero, List.set_cons_succ]
  refine wpAnyH_done (by kernel_rfl) ?_ _
  have haa := has_new w5 30 #[.pointer (some ⟨x0, 0, none⟩), .pointer (some ⟨x1, 0, none⟩)]
  have b58 : Below w5.heap.size w5 (w5.alloc (.cells #[.pointer (some ⟨x0, 0, none⟩), .pointer (some ⟨x1, 0, none⟩)] 30)) := (Below.refl _ w5).alloc (Nat.le_refl _) _
  have B38 := Lib.hid (show Below W3.heap.size W3 (w5.alloc (.cells #[.pointer (some ⟨x0, 0, none⟩), .pointer (some ⟨x1, 0, none⟩)] 30)) from (b34.trans (b5.mono b34.size)).trans (b58.mono (b34.trans (b5.mono b34.size)).size))
  have HAX := Lib.hid (show Ar (w5.alloc (.cells #[.pointer (some ⟨x0, 0, none⟩), .pointer (some ⟨x1, 0, none⟩)] 30)) x0 g (Pt.made n f1 l1 bu) ∧ Ar (w5.alloc (.cells #[.pointer (some ⟨x0, 0, none⟩), .pointer (some ⟨x1, 0, none⟩)] 30)) x1 g (Pt.made n f2 l2 bu) ∧ Has (w5.alloc (.cells #[.pointer (some ⟨x0, 0, none⟩), .pointer (some ⟨x1, 0, none⟩)] 30)) w5.heap.size 30 #[.pointer (some ⟨x0, 0, none⟩), .pointer (some ⟨x1, 0, none⟩)] ∧ W3.heap.size ≤ x0 ∧ W3.heap.size ≤ x1 ∧ W3.heap.size ≤ w5.heap.size from
    ⟨(a4.kept b5).kept b58, a5.kept b58, haa, hx0, Nat.le_trans b34.size hx1, (b34.trans (b5.mono b34.size)).size⟩)
  generalize w5.heap.size = aa at *
  generalize hw8 : (w5.alloc (.cells #[.pointer (some ⟨x0, 0, none⟩), .pointer (some ⟨x1, 0, none⟩)] 30)) = w8 at *
  clear haa b58 b34 a4 a5 b4 b5 hx0 hx1 HS6 HS4 HS5 N1' N2' hw8
  go_wp2_with fail
  have HS7 := Lib.hid (show Has w8.drew w.heap.size 23 (capCells r1 f1 l1) ∧ Has w8.drew (w.heap.size + 1) 23 (capCells r2 f2 l2) from HS8.out)
  have N1 := rnewArea_any r1 f1 l1 bu w8.drew (RR.out.kept B38.out.drew) ⟨HI.out.1, HI.out.2.1, HI.out.2.2.2.2⟩
  rw [fresh_wear] at N1
  have N1' := Lib.hid N1
  clear N1
  refine wp_region_held_drew (S := fun W => Has W w.heap.size 23 (capCells r1 f1 l1) ∧ Has W (w.heap.size + 1) 23 (capCells r2 f2 l2)) (by kernel_rfl) HS7.out ?_
  intro _
  refine wpAnyH_take (i := 0) (v := .pointer (some ⟨gr, 0, none⟩)) rfl (by kernel_rfl) (by kernel_rfl) (by kernel_rfl) (fun _ _ _ h => h) (Or.inl ⟨by rfl, (fun W _ => by go_simp)⟩) HS7.out ?_
  simp only [List.getElem_toArray, List.getElem_cons_succ, List.getElem_cons_zero, Act.put, List.setIfInBounds_toArray, List.set_cons_zero, List.set_cons_succ]
  refine wpAnyH_take (i := 1) (v := .agg #[.int .i64 r1, .int .i64 f1, .int .i64 l1]) rfl (by kernel_rfl) (by kernel_rfl) (by kernel_rfl) (fun _ _ _ h => h) (Or.inl ⟨by rfl, (fun W hW => by obtain ⟨q0, q1, q2⟩ := cap_cells hW.1; go_simp)⟩) HS7.out ?_
  simp only [List.getElem_toArray, List.getElem_cons_succ, List.getElem_cons_zero, Act.put, List.setIfInBounds_toArray, List.set_cons_zero, List.set_cons_succ]
  refine wpAnyH_take (i := 2) (v := .int .i64 bu) rfl (by kernel_rfl) (by kernel_rfl) (by kernel_rfl) (fun _ _ _ h => h) (Or.inl ⟨by rfl, (fun W _ => by go_simp)⟩) HS7.out ?_
  simp only [List.getElem_toArray, List.getElem_cons_succ, List.getElem_cons_zero, Act.put, List.setIfInBounds_toArray, List.set_cons_zero, List.set_cons_succ]
  refine wpAnyH_take (i := 4) (v := .pointer (some ⟨gr, 0, none⟩)) rfl (by kernel_rfl) (by kernel_rfl) (by kernel_rfl) (fun _ _ _ h => h) (Or.inl ⟨by rfl, (fun W _ => by go_simp)⟩) HS7.out ?_
  simp only [List.getElem_toArray, List.getElem_cons_succ, List.getElem_cons_zero, Act.put, List.setIfInBounds_toArray, List.set_cons_zero, List.set_cons_succ]
  refine wpAnyH_take (i := 5) (v := .agg #[.int .i64 r2, .int .i64 f2, .int .i64 l2]) rfl (by kernel_rfl) (by kernel_rfl) (by kernel_rfl) (fun _ _ _ h => h) (Or.inl ⟨by rfl, (fun W hW => by obtain ⟨q0, q1, q2⟩ := cap_cells hW.2; go_simp)⟩) HS7.out ?_
  simp only [List.getElem_toArray, List.getElem_cons_succ, List.getElem_cons_zero, Act.put, List.setIfInBounds_toArray, List.set_cons_zero, List.set_cons_succ]
  refine wpAnyH_take (i := 6) (v := .int .i64 bu) rfl (by kernel_rfl) (by kernel_rfl) (by kernel_rfl) (fun _ _ _ h => h) (Or.inl ⟨by rfl, (fun W _ => by go_simp)⟩) HS7.out ?_
  simp only [List.getElem_toArray, List.getElem_cons_succ, List.getElem_cons_zero, Act.put, List.setIfInBounds_toArray, List.set_cons_zero, List.set_cons_succ]
  refine wpAnyH_ready (rs := [3]) (by kernel_rfl) (by simp) ?_
  refine AllReadyH.cons rfl (fun K hK => ?_) AllReadyH.nil
  go_simp
  refine (N1'.out).mono ?_
  rintro e w9 ⟨y0, rfl, hy0, a9, b9⟩
  have HS9 := Lib.hid (show Has w9 w.heap.size 23 (capCells r1 f1 l1) ∧ Has w9 (w.heap.size + 1) 23 (capCells r2 f2 l2) from ⟨HS7.out.1.kept b9, HS7.out.2.kept b9⟩)
  have b89 := ((Below.refl _ w8).drew).trans b9
  have N2 := rnewArea_any r2 f2 l2 bu w9 (RR.out.kept (B38.out.trans (b89.mono B38.out.size))) ⟨HI.out.2.2.1, HI.out.2.2.2.1, HI.out.2.2.2.2⟩
  rw [fresh_wear] at N2
  have N2' := Lib.hid N2
  clear N2
  refine hK.out _ _ HS9.out (fun _ => ?_)
  clear hK K
  refine wpAnyH_ready (rs := [7]) (by kernel_rfl) (by simp) ?_
  refine AllReadyH.cons rfl (fun K hK => ?_) AllReadyH.nil
  go_simp
  refine (N2'.out).mono ?_
  rintro e w10 ⟨y1, rfl, hy1, a10, b10⟩
  have HS10 := Lib.hid (show Has w10 w.heap.size 23 (capCells r1 f1 l1) ∧ Has w10 (w.heap.size + 1) 23 (capCells r2 f2 l2) from ⟨HS9.out.1.kept b10, HS9.out.2.kept b10⟩)
  refine hK.out _ _ HS10.out (fun _ => ?_)
  clear hK K
  have HS11 := Lib.hid (show Has (w10.alloc (.cells #[.pointer (some ⟨y0, 0, none⟩), .pointer (some ⟨y1, 0, none⟩)] 33)) w.heap.size 23 (capCells r1 f1 l1) ∧ Has (w10.alloc (.cells #[.pointer (some ⟨y0, 0, none⟩), .pointer (some ⟨y1, 0, none⟩)] 33)) (w.heap.size + 1) 23 (capCells r2 f2 l2) from ⟨HS10.out.1.more _, HS10.out.2.more _⟩)
  refine wpAnyH_ready (rs := [8]) (by kernel_rfl) (by simp) ?_
  refine AllReadyH.cons rfl (fun K hK => ?_) AllReadyH.nil
  go_simp
  refine hK.out _ _ HS11.out (fun _ => ?_)
  clear hK K
  refine wpAnyH_take (i := 9) (v := .slice (some ⟨w10.heap.size, 0, none⟩) 2 2) rfl (by kernel_rfl) (by kernel_rfl) (by kernel_rfl) (fun _ _ _ h => h) (Or.inl ⟨by rfl, (fun W _ => by go_simp)⟩) HS11.out ?_
  simp only [List.getElem_toArray, List.getElem_cons_succ, List.getElem_cons_zero, Act.put, List.setIfInBounds_toArray, List.set_cons_zero, List.set_cons_succ]
  refine wpAnyH_done (by kernel_rfl) ?_ _
  have hba := has_new w10 33 #[.pointer (some ⟨y0, 0, none⟩), .pointer (some ⟨y1, 0, none⟩)]
  have b1011 : Below w10.heap.size w10 (w10.alloc (.cells #[.pointer (some ⟨y0, 0, none⟩), .pointer (some ⟨y1, 0, none⟩)] 33)) := (Below.refl _ w10).alloc (Nat.le_refl _) _
  have b811 : Below w8.heap.size w8 (w10.alloc (.cells #[.pointer (some ⟨y0, 0, none⟩), .pointer (some ⟨y1, 0, none⟩)] 33)) := (b89.trans (b10.mono b89.size)).trans (b1011.mono (b89.trans (b10.mono b89.size)).size)
  have b311 : Below W3.heap.size W3 (w10.alloc (.cells #[.pointer (some ⟨y0, 0, none⟩), .pointer (some ⟨y1, 0, none⟩)] 33)) := B38.out.trans (b811.mono B38.out.size)
  have s38 := B38.out.size
  have s89 := b89.size
  have s10 := b10.size
  obtain ⟨X, Y, P, Q, hst, hat, hlk, hpo, hqo⟩ : ∃ (X Y : Nat → Nat) (P Q : Nat → Pt), Playing w W3.heap.size g m k gr mr kr aa w10.heap.size X Y P Q n len (.int .i64 0) (w10.alloc (.cells #[.pointer (some ⟨y0, 0, none⟩), .pointer (some ⟨y1, 0, none⟩)] 33)) ∧ PlAt w W3.heap.size g m k gr mr kr aa w10.heap.size X Y ∧ (∀ i, Like (P i) (Q i)) ∧ (∀ i, (P i).Ok n) ∧ ∀ i, (Q i).Ok n := by
    obtain ⟨h1, h2, h3, h4, h5, h6'⟩ := HAX.out
    refine ⟨fun i => match i with | 0 => x0 | _ => x1, fun i => match i with | 0 => y0 | _ => y1, fun i => match i with | 0 => Pt.made n f1 l1 bu | _ => Pt.made n f2 l2 bu, fun i => match i with | 0 => Pt.rmade n f1 l1 bu | _ => Pt.rmade n f2 l2 bu, ?_, ?_, ?_, ?_, ?_⟩
    · refine ⟨0, fresh n, fresh n, rfl, Nat.zero_le _, Nat.le_refl 0, ⟨fresh_sim _ _, few_fresh _, few_fresh _, fresh_wear n⟩, FF.out.kept b311, RR.out.kept b311, ?_, ?_, h3.kept b811, hba, B3.out.trans (b311.mono B3.out.size), b311.size⟩
      · intro i hi
        rcases i with _ | i
        · exact h1.kept b811
        · exact h2.kept b811
      · intro i hi
        rcases i with _ | i
        · exact (a9.kept b10).kept b1011
        · exact a10.kept b1011
    · refine ⟨HAP.out.1, HAP.out.2.1, HAP.out.2.2, ?_, ?_, h6', by omega⟩
      · intro i hi
        rcases i with _ | i
        · exact h4
        · exact h5
      · intro i hi
        rcases i with _ | i
        · show W3.heap.size ≤ y0
          have : w8.heap.size ≤ y0 := hy0
          omega
        · show W3.heap.size ≤ y1
          omega
    · intro i
      rcases i with _ | i <;> exact made_like _ _ _ _
    · intro i
      rcases i with _ | i <;> exact Pt.made_ok (by omega) _ _ _
    · intro i
      rcases i with _ | i <;> exact Pt.rmade_ok (by omega) _ _ _
  have HAT := Lib.hid hat
  have HLK := Lib.hid hlk
  have HPO := Lib.hid hpo
  have HQO := Lib.hid hqo
  generalize W3.heap.size = T at *
  generalize w10.heap.size = ba at *
  clear hba b1011 b811 b311 s38 s89 s10 hat hlk hpo hqo a9 a10 b9 b10 b89 hy0 hy1 HS7 HS8 HS9 HS10 HS11 N1' N2' HAX FF RR B3 B38 Q1 Q2 HAP HI
  go_wp2_with fail
  go_loopw [16] (fun v wr => Playing w T g m k gr mr kr aa ba X Y P Q n len v wr) (fun v _ => len - (intOf v).toNat)
  case atStart => exact hst
  case round =>
    clear hst
    obtain ⟨j, S, R, rfl, hj, hS, hG, h3x⟩ := hrel
    obtain ⟨Wz, rfl⟩ : ∃ x, x = wr := ⟨_, rfl⟩
    have j0 : (0 : Int) ≤ (j : Int) := by omega
    by_cases hlt : j < len
    · have j1 : (j : Int) < (len : Int) := by omega
      obtain ⟨b, off, ha, hA⟩ : ∃ b off, a = some ⟨b, off, none⟩ ∧ ∃ way at' n BA BL BC bs MA ML MC ms ot, ActAt w b (off + j * 6) way at' n BA BL BC bs MA ML MC ms ot := by
        rcases HACTS.out with h | ⟨b, off, h1, h2⟩
        · omega
        · exact ⟨b, off, h1, h2 j hlt⟩
      obtain ⟨way, at', q, BA, BL, BC, bs, MA, ML, MC, ms, ot, hA⟩ := hA
      subst ha
      have hA1 := hA.kept h3x.low
      have c0 := hA1.c0
      have c1 := hA1.c1
      have c2 := hA1.c2
      have c3 := hA1.c3
      have c4 := hA1.c4
      have c5 := hA1.c5
      have HA := Lib.hid hA
      have H3 := Lib.hid h3x
      have HG := Lib.hid hG
      clear hA hA1 h3x hG HACTS
      by_cases g0 : 700 < BL
      · have e0 : decide (700 < BL) = true := by simpa using g0
        have e1 : (700 : Int) < (BL : Int) := by omega
        go_wp2_with fail
        go_ret
        exact ⟨rfl, H3.out.low.alloc H3.out.low.size _⟩
      have e0 : decide (700 < BL) = false := by simpa using g0
      have e1 : ¬ (700 : Int) < (BL : Int) := by omega
      by_cases g1 : 50 < ML
      · have e2 : decide (50 < ML) = true := by simpa using g1
        have e3 : (50 : Int) < (ML : Int) := by omega
        go_wp2_with fail
        go_ret
        exact ⟨rfl, H3.out.low.alloc H3.out.low.size _⟩
      have e2 : decide (50 < ML) = false := by simpa using g1
      have e3 : ¬ (50 : Int) < (ML : Int) := by omega
      obtain ⟨ab, hab⟩ : ∃ ab, Wz.heap.size = ab := ⟨_, rfl⟩
      obtain ⟨cs, hcs⟩ : ∃ cs, actCells way at' q BA BL BC MA ML MC ot = cs := ⟨_, rfl⟩
      have hTab : T ≤ ab := by have := H3.out.top; omega
      have HH0 := Lib.hid (show Has (Wz.alloc (.cells (actCells way at' q BA BL BC MA ML MC ot) 38)) ab 38 cs by rw [← hab, ← hcs]; exact has_new Wz 38 _)
      have H3a := Lib.hid (H3.out.kept ((Below.refl _ Wz).alloc (Nat.le_refl _) (.cells (actCells way at' q BA BL BC MA ML MC ot) 38)))
      unfold actCells at HH0 H3a
      obtain ⟨d, hd⟩ : ∃ d, len - j = d + 1 := ⟨len - j - 1, by omega⟩
      rw [hd] at HG
      go_upto_if 79 with fail
      go_cut [17, 18] from 58 to 225 (fun s17 s18 wx => s17 = .pointer (some ⟨ab, 0, none⟩) ∧ (∃ i : Nat, i < 2 ∧ s18 = .int .i64 (i : Int)) ∧ Pl0 w T g m k gr mr kr aa ba X Y P Q S R wx ∧ Has wx ab 38 cs)
      case first =>
        clear c0 c1 c2 c3 c4 c5
        cases ot with
        | false =>
          go_wp2_with fail
          go_meet
          case rel => exact ⟨by rw [← hab], ⟨0, by omega, rfl⟩, H3a.out, HH0.out⟩
        | true =>
          go_wp2_with fail
          go_meet
          case rel => exact ⟨by rw [← hab], ⟨1, by omega, rfl⟩, H3a.out, HH0.out⟩
      case rest =>
        obtain ⟨rfl, ⟨i, hi, rfl⟩, h3c, hHc⟩ := hcut
        have i0 : (0 : Int) ≤ (i : Int) := by omega
        have i2 : (i : Int) < 2 := by omega
        have HC5 := Lib.hid (show ∀ W, Has W ab 38 cs → W.cell? ⟨ab, 0, none⟩ = some (.int .i64 way) ∧ W.cell? ⟨ab, 1, none⟩ = some (.int .i64 at') ∧ W.cell? ⟨ab, 2, none⟩ = some (.int .i64 q) ∧ W.cell? ⟨ab, 3, none⟩ = some (.slice BA BL BC) ∧ W.cell? ⟨ab, 4, none⟩ = some (.slice MA ML MC) ∧ W.cell? ⟨ab, 5, none⟩ = some (.bool ot) from fun W hW => by rw [← hcs] at hW; exact act_cells hW)
        clear c0 c1 c2 c3 c4 c5 H3a HH0 H3 hcs hab
        have HKP := Lib.hid (show ∀ W, Below wc.heap.size wc.drew W → Pl0 w T g m k gr mr kr aa ba X Y P Q S R W ∧ Has W ab 38 cs from fun W hW => ⟨h3c.kept (((Below.refl _ wc).drew).trans hW), hHc.kept (((Below.refl _ wc).drew).trans hW)⟩)
        clear h3c hHc
        have HS7 := Lib.hid (Below.refl wc.heap.size wc.drew)
        go_wp2_with fail
        refine wp_region_held_drew (S := fun W => Below wc.heap.size wc.drew W) (by kernel_rfl) HS7.out ?_
        intro _
        refine wpAnyH_take (i := 0) (v := .slice (some ⟨aa, 0, none⟩) 2 2) rfl (by kernel_rfl) (by kernel_rfl) (by kernel_rfl) (fun _ _ _ h => h) (Or.inl ⟨by rfl, (fun W _ => by go_simp)⟩) HS7.out ?_
        simp only [List.getElem_toArray, List.getElem_cons_succ, List.getElem_cons_zero, Act.put, List.setIfInBounds_toArray, List.set_cons_zero, List.set_cons_succ]
        refine wpAnyH_take (i := 1) (v := .int .i64 (i : Int)) rfl (by kernel_rfl) (by kernel_rfl) (by kernel_rfl) (fun _ _ _ h => h) (Or.inl ⟨by rfl, (fun W _ => by go_simp)⟩) HS7.out ?_
        simp only [List.getElem_toArray, List.getElem_cons_succ, List.getElem_cons_zero, Act.put, List.setIfInBounds_toArray, List.set_cons_zero, List.set_cons_succ]
        refine wpAnyH_take (i := 2) (v := .pointer (some ⟨aa, i, none⟩)) rfl (by kernel_rfl) (by kernel_rfl) (by kernel_rfl) (fun _ _ _ h => h) (Or.inl ⟨by rfl, (fun W _ => by go_simp)⟩) HS7.out ?_
        simp only [List.getElem_toArray, List.getElem_cons_succ, List.getElem_cons_zero, Act.put, List.setIfInBounds_toArray, List.set_cons_zero, List.set_cons_succ]
        refine wpAnyH_take (i := 3) (v := .pointer (some ⟨X i, 0, none⟩)) rfl (by kernel_rfl) (by kernel_rfl) (by kernel_rfl) (fun _ _ _ h => h) (Or.inl ⟨by rfl, (fun W hW => by have q9 := two_at (HKP.out W hW).1.av hi; go_simp)⟩) HS7.out ?_
        simp only [List.getElem_toArray, List.getElem_cons_succ, List.getElem_cons_zero, Act.put, List.setIfInBounds_toArray, List.set_cons_zero, List.set_cons_succ]
        refine wpAnyH_take (i := 4) (v := .bool false) rfl (by kernel_rfl) (by kernel_rfl) (by kernel_rfl) (fun _ _ _ h => h) (Or.inl ⟨by rfl, (fun W _ => by go_simp)⟩) HS7.out ?_
        simp only [List.getElem_toArray, List.getElem_cons_succ, List.getElem_cons_zero, Act.put, List.setIfInBounds_toArray, List.set_cons_zero, List.set_cons_succ]
        refine wpAnyH_take (i := 5) (v := .bool false) rfl (by kernel_rfl) (by kernel_rfl) (by kernel_rfl) (fun _ _ _ h => h) (Or.inl ⟨by rfl, (fun W _ => by go_simp)⟩) HS7.out ?_
        simp only [List.getElem_toArray, List.getElem_cons_succ, List.getElem_cons_zero, Act.put, List.setIfInBounds_toArray, List.set_cons_zero, List.set_cons_succ]
        refine wpAnyH_take (i := 6) (v := .slice (some ⟨aa, 0, none⟩) 2 2) rfl (by kernel_rfl) (by kernel_rfl) (by kernel_rfl) (fun _ _ _ h => h) (Or.inl ⟨by rfl, (fun W _ => by go_simp)⟩) HS7.out ?_
        simp only [List.getElem_toArray, List.getElem_cons_succ, List.getElem_cons_zero, Act.put, List.setIfInBounds_toArray, List.set_cons_zero, List.set_cons_succ]
        refine wpAnyH_take (i := 7) (v := .int .i64 (i : Int)) rfl (by kernel_rfl) (by kernel_rfl) (by kernel_rfl) (fun _ _ _ h => h) (Or.inl ⟨by rfl, (fun W _ => by go_simp)⟩) HS7.out ?_
        simp only [List.getElem_toArray, List.getElem_cons_succ, List.getElem_cons_zero, Act.put, List.setIfInBounds_toArray, List.set_cons_zero, List.set_cons_succ]
        refine wpAnyH_take (i := 8) (v := .pointer (some ⟨aa, i, none⟩)) rfl (by kernel_rfl) (by kernel_rfl) (by kernel_rfl) (fun _ _ _ h => h) (Or.inl ⟨by rfl, (fun W _ => by go_simp)⟩) HS7.out ?_
        simp only [List.getElem_toArray, List.getElem_cons_succ, List.getElem_cons_zero, Act.put, List.setIfInBounds_toArray, List.set_cons_zero, List.set_cons_succ]
        refine wpAnyH_take (i := 9) (v := .pointer (some ⟨X i, 0, none⟩)) rfl (by kernel_rfl) (by kernel_rfl) (by kernel_rfl) (fun _ _ _ h => h) (Or.inl ⟨by rfl, (fun W hW => by have q9 := two_at (HKP.out W hW).1.av hi; go_simp)⟩) HS7.out ?_
        simp only [List.getElem_toArray, List.getElem_cons_succ, List.getElem_cons_zero, Act.put, List.setIfInBounds_toArray, List.set_cons_zero, List.set_cons_succ]
        refine wpAnyH_take (i := 11) (v := .slice (some ⟨ba, 0, none⟩) 2 2) rfl (by kernel_rfl) (by kernel_rfl) (by kernel_rfl) (fun _ _ _ h => h) (Or.inl ⟨by rfl, (fun W _ => by go_simp)⟩) HS7.out ?_
        simp only [List.getElem_toArray, List.getElem_cons_succ, List.getElem_cons_zero, Act.put, List.setIfInBounds_toArray, List.set_cons_zero, List.set_cons_succ]
        refine wpAnyH_take (i := 12) (v := .int .i64 (i : Int)) rfl (by kernel_rfl) (by kernel_rfl) (by kernel_rfl) (fun _ _ _ h => h) (Or.inl ⟨by rfl, (fun W _ => by go_simp)⟩) HS7.out ?_
        simp only [List.getElem_toArray, List.getElem_cons_succ, List.getElem_cons_zero, Act.put, List.setIfInBounds_toArray, List.set_cons_zero, List.set_cons_succ]
        refine wpAnyH_take (i := 13) (v := .pointer (some ⟨ba, i, none⟩)) rfl (by kernel_rfl) (by kernel_rfl) (by kernel_rfl) (fun _ _ _ h => h) (Or.inl ⟨by rfl, (fun W _ => by go_simp)⟩) HS7.out ?_
        simp only [List.getElem_toArray, List.getElem_cons_succ, List.getElem_cons_zero, Act.put, List.setIfInBounds_toArray, List.set_cons_zero, List.set_cons_succ]
        refine wpAnyH_take (i := 14) (v := .pointer (some ⟨Y i, 0, none⟩)) rfl (by kernel_rfl) (by kernel_rfl) (by kernel_rfl) (fun _ _ _ h => h) (Or.inl ⟨by rfl, (fun W hW => by have q9 := two_at (HKP.out W hW).1.bv hi; go_simp)⟩) HS7.out ?_
        simp only [List.getElem_toArray, List.getElem_cons_succ, List.getElem_cons_zero, Act.put, List.setIfInBounds_toArray, List.set_cons_zero, List.set_cons_succ]
        refine wpAnyH_ready (rs := [10]) (by kernel_rfl) (by simp) ?_
        refine AllReadyH.cons rfl (fun K hK => ?_) AllReadyH.nil
        go_simp
        refine (alen_any wc.drew ((HKP.out _ HS7.out).1.a i hi)).mono ?_
        rintro e w20 ⟨rfl, b20⟩
        have HS20 := Lib.hid (show Below wc.heap.size wc.drew w20 from b20)
        refine hK.out _ _ HS20.out (fun _ => ?_)
        clear hK K
        refine wpAnyH_ready (rs := [15]) (by kernel_rfl) (by simp) ?_
        refine AllReadyH.cons rfl (fun K hK => ?_) AllReadyH.nil
        go_simp
        refine (ralen_any w20 ((HKP.out _ HS20.out).1.b i hi)).mono ?_
        rintro e w21 ⟨rfl, rfl⟩
        rw [← (HLK.out i).1]
        refine hK.out _ _ HS20.out (fun _ => ?_)
        clear hK K
        refine wpAnyH_take (i := 16) (v := .bool false) rfl (by kernel_rfl) (by kernel_rfl) (by kernel_rfl) (fun _ _ _ h => h) (Or.inl ⟨by rfl, (fun W _ => by go_simp)⟩) HS20.out ?_
        simp only [List.getElem_toArray, List.getElem_cons_succ, List.getElem_cons_zero, Act.put, List.setIfInBounds_toArray, List.set_cons_zero, List.set_cons_succ]
        refine wpAnyH_take (i := 17) (v := .bool false) rfl (by kernel_rfl) (by kernel_rfl) (by kernel_rfl) (fun _ _ _ h => h) (Or.inl ⟨by rfl, (fun W _ => by go_simp)⟩) HS20.out ?_
        simp only [List.getElem_toArray, List.getElem_cons_succ, List.getElem_cons_zero, Act.put, List.setIfInBounds_toArray, List.set_cons_zero, List.set_cons_succ]
        refine wpAnyH_done (by kernel_rfl) ?_ _
        have H3o := Lib.hid (HKP.out _ HS20.out).1
        have HHo := Lib.hid (HKP.out _ HS20.out).2
        obtain ⟨cw, _⟩ := HC5.out _ HHo.out
        clear HKP HS7 HS20 b20
        go_upto_block 2 with fail
        go_cut [17, 18] from 58 to 225 (fun s17 s18 wx => s17 = .pointer (some ⟨ab, 0, none⟩) ∧ s18 = .int .i64 (i : Int) ∧ After w T g m k gr mr kr aa ba X Y P Q n d (j + 1) ab cs wx)
        case first =>
          by_cases w0 : way = 0
          · subst w0
            as_aux_lemma =>
              have HIN := Lib.hid (show Clear gr mr kr BA BL ∧ Clear gr mr kr MA ML from ⟨clear_in HA.out.rb (fun b hb => (HAT.out.lr b hb).1), clear_in HA.out.rm (fun b hb => (HAT.out.lr b hb).1)⟩)
              have HRO := Lib.hid (show R.ops = S.ops from HG.out.sim.ops.symm)
              have HNF := Lib.hid (show ¬ In3 g m k ab ∧ ¬ In3 gr mr kr ab from ⟨HAT.out.nf hTab, HAT.out.nr hTab⟩)
              have HS7 := Lib.hid (show Has w20.drew ab 38 cs ∧ Has w20.drew aa 30 (two X) ∧ Has w20.drew ba 33 (two Y) from ⟨HHo.out, H3o.out.av, H3o.out.bv⟩)
              have HT7 := Lib.hid (H3o.out.kept ((Below.refl _ w20).drew))
              clear cw
              go_wp2_with fail
              refine wp_region_held_drew (S := fun W => Has W ab 38 cs ∧ Has W aa 30 (two X) ∧ Has W ba 33 (two Y)) (by kernel_rfl) HS7.out ?_
              intro _
              refine wpAnyH_take (i := 0) (v := .slice (some ⟨aa, 0, none⟩) 2 2) rfl (by kernel_rfl) (by kernel_rfl) (by kernel_rfl) (fun _ _ _ h => h) (Or.inl ⟨by rfl, (fun W _ => by go_simp)⟩) HS7.out ?_
              simp only [List.getElem_toArray, List.getElem_cons_succ, List.getElem_cons_zero, Act.put, List.setIfInBounds_toArray, List.set_cons_zero, List.set_cons_succ]
              refine wpAnyH_take (i := 1) (v := .int .i64 (i : Int)) rfl (by kernel_rfl) (by kernel_rfl) (by kernel_rfl) (fun _ _ _ h => h) (Or.inl ⟨by rfl, (fun W _ => by go_simp)⟩) HS7.out ?_
              simp only [List.getElem_toArray, List.getElem_cons_succ, List.getElem_cons_zero, Act.put, List.setIfInBounds_toArray, List.set_cons_zero, List.set_cons_succ]
              refine wpAnyH_take (i := 2) (v := .pointer (some ⟨aa, i, none⟩)) rfl (by kernel_rfl) (by kernel_rfl) (by kernel_rfl) (fun _ _ _ h => h) (Or.inl ⟨by rfl, (fun W _ => by go_simp)⟩) HS7.out ?_
              simp only [List.getElem_toArray, List.getElem_cons_succ, List.getElem_cons_zero, Act.put, List.setIfInBounds_toArray, List.set_cons_zero, List.set_cons_succ]
              refine wpAnyH_take (i := 3) (v := .pointer (some ⟨X i, 0, none⟩)) rfl (by kernel_rfl) (by kernel_rfl) (by kernel_rfl) (fun _ _ _ h => h) (Or.inl ⟨by rfl, (fun W hW => by have q9 := two_at hW.2.1 hi; go_simp)⟩) HS7.out ?_
              simp only [List.getElem_toArray, List.getElem_cons_succ, List.getElem_cons_zero, Act.put, List.setIfInBounds_toArray, List.set_cons_zero, List.set_cons_succ]
              refine wpAnyH_take (i := 4) (v := .pointer (some ⟨ab, 2, none⟩)) rfl (by kernel_rfl) (by kernel_rfl) (by kernel_rfl) (fun _ _ _ h => h) (Or.inl ⟨by rfl, (fun W _ => by go_simp)⟩) HS7.out ?_
              simp only [List.getElem_toArray, List.getElem_cons_succ, List.getElem_cons_zero, Act.put, List.setIfInBounds_toArray, List.set_cons_zero, List.set_cons_succ]
              refine wpAnyH_take (i := 5) (v := .int .i64 q) rfl (by kernel_rfl) (by kernel_rfl) (by kernel_rfl) (fun _ _ _ h => h) (Or.inl ⟨by rfl, (fun W hW => by have q9 := (HC5.out W hW.1).2.2.1; go_simp)⟩) HS7.out ?_
              simp only [List.getElem_toArray, List.getElem_cons_succ, List.getElem_cons_zero, Act.put, List.setIfInBounds_toArray, List.set_cons_zero, List.set_cons_succ]
              refine wpAnyH_take (i := 6) (v := .pointer (some ⟨ab, 1, none⟩)) rfl (by kernel_rfl) (by kernel_rfl) (by kernel_rfl) (fun _ _ _ h => h) (Or.inl ⟨by rfl, (fun W _ => by go_simp)⟩) HS7.out ?_
              simp only [List.getElem_toArray, List.getElem_cons_succ, List.getElem_cons_zero, Act.put, List.setIfInBounds_toArray, List.set_cons_zero, List.set_cons_succ]
              refine wpAnyH_take (i := 7) (v := .int .i64 at') rfl (by kernel_rfl) (by kernel_rfl) (by kernel_rfl) (fun _ _ _ h => h) (Or.inl ⟨by rfl, (fun W hW => by have q9 := (HC5.out W hW.1).2.1; go_simp)⟩) HS7.out ?_
              simp only [List.getElem_toArray, List.getElem_cons_succ, List.getElem_cons_zero, Act.put, List.setIfInBounds_toArray, List.set_cons_zero, List.set_cons_succ]
              refine wpAnyH_take (i := 8) (v := .pointer (some ⟨ab, 3, none⟩)) rfl (by kernel_rfl) (by kernel_rfl) (by kernel_rfl) (fun _ _ _ h => h) (Or.inl ⟨by rfl, (fun W _ => by go_simp)⟩) HS7.out ?_
              simp only [List.getElem_toArray, List.getElem_cons_succ, List.getElem_cons_zero, Act.put, List.setIfInBounds_toArray, List.set_cons_zero, List.set_cons_succ]
              refine wpAnyH_take (i := 9) (v := .slice BA BL BC) rfl (by kernel_rfl) (by kernel_rfl) (by kernel_rfl) (fun _ _ _ h => h) (Or.inl ⟨by rfl, (fun W hW => by have q9 := (HC5.out W hW.1).2.2.2.1; go_simp)⟩) HS7.out ?_
              simp only [List.getElem_toArray, List.getElem_cons_succ, List.getElem_cons_zero, Act.put, List.setIfInBounds_toArray, List.set_cons_zero, List.set_cons_succ]
              refine wpAnyH_take (i := 13) (v := .slice (some ⟨ba, 0, none⟩) 2 2) rfl (by kernel_rfl) (by kernel_rfl) (by kernel_rfl) (fun _ _ _ h => h) (Or.inl ⟨by rfl, (fun W _ => by go_simp)⟩) HS7.out ?_
              simp only [List.getElem_toArray, List.getElem_cons_succ, List.getElem_cons_zero, Act.put, List.setIfInBounds_toArray, List.set_cons_zero, List.set_cons_succ]
              refine wpAnyH_take (i := 14) (v := .int .i64 (i : Int)) rfl (by kernel_rfl) (by kernel_rfl) (by kernel_rfl) (fun _ _ _ h => h) (Or.inl ⟨by rfl, (fun W _ => by go_simp)⟩) HS7.out ?_
              simp only [List.getElem_toArray, List.getElem_cons_succ, List.getElem_cons_zero, Act.put, List.setIfInBounds_toArray, List.set_cons_zero, List.set_cons_succ]
              refine wpAnyH_take (i := 15) (v := .pointer (some ⟨ba, i, none⟩)) rfl (by kernel_rfl) (by kernel_rfl) (by kernel_rfl) (fun _ _ _ h => h) (Or.inl ⟨by rfl, (fun W _ => by go_simp)⟩) HS7.out ?_
              simp only [List.getElem_toArray, List.getElem_cons_succ, List.getElem_cons_zero, Act.put, List.setIfInBounds_toArray, List.set_cons_zero, List.set_cons_succ]
              refine wpAnyH_take (i := 16) (v := .pointer (some ⟨Y i, 0, none⟩)) rfl (by kernel_rfl) (by kernel_rfl) (by kernel_rfl) (fun _ _ _ h => h) (Or.inl ⟨by rfl, (fun W hW => by have q9 := two_at hW.2.2 hi; go_simp)⟩) HS7.out ?_
              simp only [List.getElem_toArray, List.getElem_cons_succ, List.getElem_cons_zero, Act.put, List.setIfInBounds_toArray, List.set_cons_zero, List.set_cons_succ]
              refine wpAnyH_take (i := 17) (v := .pointer (some ⟨ab, 2, none⟩)) rfl (by kernel_rfl) (by kernel_rfl) (by kernel_rfl) (fun _ _ _ h => h) (Or.inl ⟨by rfl, (fun W _ => by go_simp)⟩) HS7.out ?_
              simp only [List.getElem_toArray, List.getElem_cons_succ, List.getElem_cons_zero, Act.put, List.setIfInBounds_toArray, List.set_cons_zero, List.set_cons_succ]
              refine wpAnyH_take (i := 18) (v := .int .i64 q) rfl (by kernel_rfl) (by kernel_rfl) (by kernel_rfl) (fun _ _ _ h => h) (Or.inl ⟨by rfl, (fun W hW => by have q9 := (HC5.out W hW.1).2.2.1; go_simp)⟩) HS7.out ?_
              simp only [List.getElem_toArray, List.getElem_cons_succ, List.getElem_cons_zero, Act.put, List.setIfInBounds_toArray, List.set_cons_zero, List.set_cons_succ]
              refine wpAnyH_take (i := 19) (v := .pointer (some ⟨ab, 1, none⟩)) rfl (by kernel_rfl) (by kernel_rfl) (by kernel_rfl) (fun _ _ _ h => h) (Or.inl ⟨by rfl, (fun W _ => by go_simp)⟩) HS7.out ?_
              simp only [List.getElem_toArray, List.getElem_cons_succ, List.getElem_cons_zero, Act.put, List.setIfInBounds_toArray, List.set_cons_zero, List.set_cons_succ]
              refine wpAnyH_take (i := 20) (v := .int .i64 at') rfl (by kernel_rfl) (by kernel_rfl) (by kernel_rfl) (fun _ _ _ h => h) (Or.inl ⟨by rfl, (fun W hW => by have q9 := (HC5.out W hW.1).2.1; go_simp)⟩) HS7.out ?_
              simp only [List.getElem_toArray, List.getElem_cons_succ, List.getElem_cons_zero, Act.put, List.setIfInBounds_toArray, List.set_cons_zero, List.set_cons_succ]
              refine wpAnyH_take (i := 21) (v := .pointer (some ⟨ab, 3, none⟩)) rfl (by kernel_rfl) (by kernel_rfl) (by kernel_rfl) (fun _ _ _ h => h) (Or.inl ⟨by rfl, (fun W _ => by go_simp)⟩) HS7.out ?_
              simp only [List.getElem_toArray, List.getElem_cons_succ, List.getElem_cons_zero, Act.put, List.setIfInBounds_toArray, List.set_cons_zero, List.set_cons_succ]
              refine wpAnyH_take (i := 22) (v := .slice BA BL BC) rfl (by kernel_rfl) (by kernel_rfl) (by kernel_rfl) (fun _ _ _ h => h) (Or.inl ⟨by rfl, (fun W hW => by have q9 := (HC5.out W hW.1).2.2.2.1; go_simp)⟩) HS7.out ?_
              simp only [List.getElem_toArray, List.getElem_cons_succ, List.getElem_cons_zero, Act.put, List.setIfInBounds_toArray, List.set_cons_zero, List.set_cons_succ]
              obtain ⟨v9, w9, hrun9, own9, g9⟩ := runs_app w20.drew w20.drew.heap.size 36 (.slice none 0 0) 0 [] (own_nil _ _) BA BL BC bs (row_below HT7.out.low HA.out.rb) (row_none HA.out.rb) (by omega) (Nat.le_refl _)
              rw [Nat.zero_add, List.nil_append] at own9
              have c9 := below_own (Below.refl _ w20.drew) (own_nil w20.drew w20.drew.heap.size) g9 (Nat.le_refl _) (Nat.le_refl _)
              obtain ⟨A9, e9, rfl, he9, hq9, hA9⟩ := own9.form
              have HS9 := Lib.hid (show Has w9 ab 38 cs ∧ Has w9 aa 30 (two X) ∧ Has w9 ba 33 (two Y) from ⟨HS7.out.1.kept c9, HS7.out.2.1.kept c9, HS7.out.2.2.kept c9⟩)
              have HT9 := Lib.hid (HT7.out.kept c9)
              have HQ9 := Lib.hid hq9
              have HAW9 := Lib.hid (show Clear g m k A9 BL from .inr fun x hx e => by have h1 := (hA9 x hx).1; have h2 := (HAT.out.lf _ e).2; have h3 := HT7.out.top; omega)
              refine wpAnyH_ready (rs := [10]) (by kernel_rfl) (by simp) ?_
              refine AllReadyH.cons rfl (fun K hK => ?_) AllReadyH.nil
              refine step_run (by rfl) (.const (.slice none 0 0)) (.tmp 111) rfl 36 rfl (.slice none 0 0) (.slice BA BL BC) (.slice A9 BL e9) rfl rfl hrun9 ?_
              refine hK.out _ _ HS9.out (fun _ => ?_)
              clear hK K hrun9 own9 g9 c9 hq9 hA9
              simp only [List.getElem_toArray, List.getElem_cons_succ, List.getElem_cons_zero, Act.put, List.setIfInBounds_toArray, List.set_cons_zero, List.set_cons_succ]
              refine wpAnyH_ready (rs := [11]) (by kernel_rfl) (by simp) ?_
              refine AllReadyH.cons rfl (fun K hK => ?_) AllReadyH.nil
              go_simp
              refine (aprogram_any q at' A9 BL e9 bs w9 (HT9.out.a i hi) HT9.out.f (by rw [HG.out.wl]; exact HPO.out i) HA.out.i1 HQ9.out HAW9.out (by omega)).mono ?_
              rintro e w10 ⟨rfl, f10, o10⟩
              have HS10 := Lib.hid (show Has w10 ab 38 cs ∧ Has w10 aa 30 (two X) ∧ Has w10 ba 33 (two Y) from ⟨HS9.out.1.only o10 HNF.out.1, HS9.out.2.1.only o10 (HAT.out.nf HAT.out.aa), HS9.out.2.2.only o10 (HAT.out.nf HAT.out.ba)⟩)
              have H10 := Lib.hid (HT9.out.of_f HAT.out ⟨f10, o10⟩)
              clear f10 o10
              refine hK.out _ _ HS10.out (fun _ => ?_)
              clear hK K
              refine wpAnyH_ready (rs := [12]) (by kernel_rfl) (by simp) ?_
              refine AllReadyH.cons rfl (fun K hK => ?_) AllReadyH.nil
              go_simp
              refine (num_any _ _).mono ?_
              rintro e w11 ⟨rfl, rfl⟩
              refine hK.out _ _ HS10.out (fun _ => ?_)
              clear hK K
              have HGD := Lib.hid (good_prog HG.out (HLK.out i) q at' bs)
              refine wpAnyH_ready (rs := [23]) (by kernel_rfl) (by simp) ?_
              refine AllReadyH.cons rfl (fun K hK => ?_) AllReadyH.nil
              go_simp
              refine (raprogram_any q at' BA BL BC bs w10 (H10.out.b i hi) H10.out.r (by rw [HG.out.wr]; exact HQO.out i) HA.out.i1 (row_below H10.out.low HA.out.rb) (by omega) HIN.out.1 (by rw [HRO.out]; omega)).mono ?_
              rintro e w12 ⟨rfl, f12, o12⟩
              have HS12 := Lib.hid (show Has w12 ab 38 cs ∧ Has w12 aa 30 (two X) ∧ Has w12 ba 33 (two Y) from ⟨HS10.out.1.only o12 HNF.out.2, HS10.out.2.1.only o12 (HAT.out.nr HAT.out.aa), HS10.out.2.2.only o12 (HAT.out.nr HAT.out.ba)⟩)
              have H12 := Lib.hid (H10.out.of_r HAT.out ⟨f12, o12⟩)
              clear f12 o12
              rw [HGD.out.1]
              refine hK.out _ _ HS12.out (fun _ => ?_)
              clear hK K
              refine wpAnyH_take (i := 24) (v := .bool false) rfl (by kernel_rfl) (by kernel_rfl) (by kernel_rfl) (fun _ _ _ h => h) (Or.inl ⟨by rfl, (fun W _ => by go_simp)⟩) HS12.out ?_
              simp only [List.getElem_toArray, List.getElem_cons_succ, List.getElem_cons_zero, Act.put, List.setIfInBounds_toArray, List.set_cons_zero, List.set_cons_succ]
              refine wpAnyH_done (by kernel_rfl) ?_ _
              have hpo := (aProg_wears S (P i) q at' bs).2
              go_wp2_with fail
              go_meet
              case rel => exact ⟨rfl, rfl, _, _, by omega, HGD.out.2, H12.out, HS12.out.1⟩
          have w0b : (way == 0) = false := by simpa using w0
          by_cases w1 : way = 1
          · subst w1
            as_aux_lemma =>
              have HIN := Lib.hid (show Clear gr mr kr BA BL ∧ Clear gr mr kr MA ML from ⟨clear_in HA.out.rb (fun b hb => (HAT.out.lr b hb).1), clear_in HA.out.rm (fun b hb => (HAT.out.lr b hb).1)⟩)
              have HRO := Lib.hid (show R.ops = S.ops from HG.out.sim.ops.symm)
              have HNF := Lib.hid (show ¬ In3 g m k ab ∧ ¬ In3 gr mr kr ab from ⟨HAT.out.nf hTab, HAT.out.nr hTab⟩)
              have HS7 := Lib.hid (show Has w20.drew ab 38 cs ∧ Has w20.drew aa 30 (two X) ∧ Has w20.drew ba 33 (two Y) from ⟨HHo.out, H3o.out.av, H3o.out.bv⟩)
              have HT7 := Lib.hid (H3o.out.kept ((Below.refl _ w20).drew))
              clear cw
              go_wp2_with fail
              refine wp_region_held_drew (S := fun W => Has W ab 38 cs ∧ Has W aa 30 (two X) ∧ Has W ba 33 (two Y)) (by kernel_rfl) HS7.out ?_
              intro _
              refine wpAnyH_take (i := 0) (v := .slice (some ⟨aa, 0, none⟩) 2 2) rfl (by kernel_rfl) (by kernel_rfl) (by kernel_rfl) (fun _ _ _ h => h) (Or.inl ⟨by rfl, (fun W _ => by go_simp)⟩) HS7.out ?_
              simp only [List.getElem_toArray, List.getElem_cons_succ, List.getElem_cons_zero, Act.put, List.setIfInBounds_toArray, List.set_cons_zero, List.set_cons_succ]
              refine wpAnyH_take (i := 1) (v := .int .i64 (i : Int)) rfl (by kernel_rfl) (by kernel_rfl) (by kernel_rfl) (fun _ _ _ h => h) (Or.inl ⟨by rfl, (fun W _ => by go_simp)⟩) HS7.out ?_
              simp only [List.getElem_toArray, List.getElem_cons_succ, List.getElem_cons_zero, Act.put, List.setIfInBounds_toArray, List.set_cons_zero, List.set_cons_succ]
              refine wpAnyH_take (i := 2) (v := .pointer (some ⟨aa, i, none⟩)) rfl (by kernel_rfl) (by kernel_rfl) (by kernel_rfl) (fun _ _ _ h => h) (Or.inl ⟨by rfl, (fun W _ => by go_simp)⟩) HS7.out ?_
              simp only [List.getElem_toArray, List.getElem_cons_succ, List.getElem_cons_zero, Act.put, List.setIfInBounds_toArray, List.set_cons_zero, List.set_cons_succ]
              refine wpAnyH_take (i := 3) (v := .pointer (some ⟨X i, 0, none⟩)) rfl (by kernel_rfl) (by kernel_rfl) (by kernel_rfl) (fun _ _ _ h => h) (Or.inl ⟨by rfl, (fun W hW => by have q9 := two_at hW.2.1 hi; go_simp)⟩) HS7.out ?_
              simp only [List.getElem_toArray, List.getElem_cons_succ, List.getElem_cons_zero, Act.put, List.setIfInBounds_toArray, List.set_cons_zero, List.set_cons_succ]
              refine wpAnyH_take (i := 4) (v := .pointer (some ⟨ab, 2, none⟩)) rfl (by kernel_rfl) (by kernel_rfl) (by kernel_rfl) (fun _ _ _ h => h) (Or.inl ⟨by rfl, (fun W _ => by go_simp)⟩) HS7.out ?_
              simp only [List.getElem_toArray, List.getElem_cons_succ, List.getElem_cons_zero, Act.put, List.setIfInBounds_toArray, List.set_cons_zero, List.set_cons_succ]
              refine wpAnyH_take (i := 5) (v := .int .i64 q) rfl (by kernel_rfl) (by kernel_rfl) (by kernel_rfl) (fun _ _ _ h => h) (Or.inl ⟨by rfl, (fun W hW => by have q9 := (HC5.out W hW.1).2.2.1; go_simp)⟩) HS7.out ?_
              simp only [List.getElem_toArray, List.getElem_cons_succ, List.getElem_cons_zero, Act.put, List.setIfInBounds_toArray, List.set_cons_zero, List.set_cons_succ]
              refine wpAnyH_take (i := 8) (v := .slice (some ⟨ba, 0, none⟩) 2 2) rfl (by kernel_rfl) (by kernel_rfl) (by kernel_rfl) (fun _ _ _ h => h) (Or.inl ⟨by rfl, (fun W _ => by go_simp)⟩) HS7.out ?_
              simp only [List.getElem_toArray, List.getElem_cons_succ, List.getElem_cons_zero, Act.put, List.setIfInBounds_toArray, List.set_cons_zero, List.set_cons_succ]
              refine wpAnyH_take (i := 9) (v := .int .i64 (i : Int)) rfl (by kernel_rfl) (by kernel_rfl) (by kernel_rfl) (fun _ _ _ h => h) (Or.inl ⟨by rfl, (fun W _ => by go_simp)⟩) HS7.out ?_
              simp only [List.getElem_toArray, List.getElem_cons_succ, List.getElem_cons_zero, Act.put, List.setIfInBounds_toArray, List.set_cons_zero, List.set_cons_succ]
              refine wpAnyH_take (i := 10) (v := .pointer (some ⟨ba, i, none⟩)) rfl (by kernel_rfl) (by kernel_rfl) (by kernel_rfl) (fun _ _ _ h => h) (Or.inl ⟨by rfl, (fun W _ => by go_simp)⟩) HS7.out ?_
              simp only [List.getElem_toArray, List.getElem_cons_succ, List.getElem_cons_zero, Act.put, List.setIfInBounds_toArray, List.set_cons_zero, List.set_cons_succ]
              refine wpAnyH_take (i := 11) (v := .pointer (some ⟨Y i, 0, none⟩)) rfl (by kernel_rfl) (by kernel_rfl) (by kernel_rfl) (fun _ _ _ h => h) (Or.inl ⟨by rfl, (fun W hW => by have q9 := two_at hW.2.2 hi; go_simp)⟩) HS7.out ?_
              simp only [List.getElem_toArray, List.getElem_cons_succ, List.getElem_cons_zero, Act.put, List.setIfInBounds_toArray, List.set_cons_zero, List.set_cons_succ]
              refine wpAnyH_take (i := 12) (v := .pointer (some ⟨ab, 2, none⟩)) rfl (by kernel_rfl) (by kernel_rfl) (by kernel_rfl) (fun _ _ _ h => h) (Or.inl ⟨by rfl, (fun W _ => by go_simp)⟩) HS7.out ?_
              simp only [List.getElem_toArray, List.getElem_cons_succ, List.getElem_cons_zero, Act.put, List.setIfInBounds_toArray, List.set_cons_zero, List.set_cons_succ]
              refine wpAnyH_take (i := 13) (v := .int .i64 q) rfl (by kernel_rfl) (by kernel_rfl) (by kernel_rfl) (fun _ _ _ h => h) (Or.inl ⟨by rfl, (fun W hW => by have q9 := (HC5.out W hW.1).2.2.1; go_simp)⟩) HS7.out ?_
              simp only [List.getElem_toArray, List.getElem_cons_succ, List.getElem_cons_zero, Act.put, List.setIfInBounds_toArray, List.set_cons_zero, List.set_cons_succ]
              refine wpAnyH_ready (rs := [6]) (by kernel_rfl) (by simp) ?_
              refine AllReadyH.cons rfl (fun K hK => ?_) AllReadyH.nil
              go_simp
              refine (aerase_any q w20.drew (HT7.out.a i hi) HT7.out.f HG.out.fs (by omega) (by rw [HG.out.wl]; exact HPO.out i)).mono ?_
              rintro e w10 ⟨rfl, f10, o10⟩
              have HS10 := Lib.hid (show Has w10 ab 38 cs ∧ Has w10 aa 30 (two X) ∧ Has w10 ba 33 (two Y) from ⟨HS7.out.1.only o10 HNF.out.1, HS7.out.2.1.only o10 (HAT.out.nf HAT.out.aa), HS7.out.2.2.only o10 (HAT.out.nf HAT.out.ba)⟩)
              have H10 := Lib.hid (HT7.out.of_f HAT.out ⟨f10, o10⟩)
              clear f10 o10
              refine hK.out _ _ HS10.out (fun _ => ?_)
              clear hK K
              refine wpAnyH_ready (rs := [7]) (by kernel_rfl) (by simp) ?_
              refine AllReadyH.cons rfl (fun K hK => ?_) AllReadyH.nil
              go_simp
              refine (num_any _ _).mono ?_
              rintro e w11 ⟨rfl, rfl⟩
              refine hK.out _ _ HS10.out (fun _ => ?_)
              clear hK K
              have HGD := Lib.hid (good_erase HG.out (HLK.out i) q)
              refine wpAnyH_ready (rs := [14]) (by kernel_rfl) (by simp) ?_
              refine AllReadyH.cons rfl (fun K hK => ?_) AllReadyH.nil
              go_simp
              refine (raerase_any q w10 (H10.out.b i hi) H10.out.r HG.out.fr (by rw [HRO.out]; omega) (by rw [HG.out.wr]; exact HQO.out i)).mono ?_
              rintro e w12 ⟨rfl, f12, o12⟩
              have HS12 := Lib.hid (show Has w12 ab 38 cs ∧ Has w12 aa 30 (two X) ∧ Has w12 ba 33 (two Y) from ⟨HS10.out.1.only o12 HNF.out.2, HS10.out.2.1.only o12 (HAT.out.nr HAT.out.aa), HS10.out.2.2.only o12 (HAT.out.nr HAT.out.ba)⟩)
              have H12 := Lib.hid (H10.out.of_r HAT.out ⟨f12, o12⟩)
              clear f12 o12
              rw [HGD.out.1]
              refine hK.out _ _ HS12.out (fun _ => ?_)
              clear hK K
              refine wpAnyH_take (i := 15) (v := .bool false) rfl (by kernel_rfl) (by kernel_rfl) (by kernel_rfl) (fun _ _ _ h => h) (Or.inl ⟨by rfl, (fun W _ => by go_simp)⟩) HS12.out ?_
              simp only [List.getElem_toArray, List.getElem_cons_succ, List.getElem_cons_zero, Act.put, List.setIfInBounds_toArray, List.set_cons_zero, List.set_cons_succ]
              refine wpAnyH_done (by kernel_rfl) ?_ _
              have hpo := (aErase_wears S (P i) q).2
              go_wp2_with fail
              go_meet
              case rel => exact ⟨rfl, rfl, _, _, by omega, HGD.out.2, H12.out, HS12.out.1⟩
          have w1b : (way == 1) = false := by simpa using w1
          by_cases w2 : way = 2
          · subst w2
            as_aux_lemma =>
              have HIN := Lib.hid (show Clear gr mr kr BA BL ∧ Clear gr mr kr MA ML from ⟨clear_in HA.out.rb (fun b hb => (HAT.out.lr b hb).1), clear_in HA.out.rm (fun b hb => (HAT.out.lr b hb).1)⟩)
              have HRO := Lib.hid (show R.ops = S.ops from HG.out.sim.ops.symm)
              have HNF := Lib.hid (show ¬ In3 g m k ab ∧ ¬ In3 gr mr kr ab from ⟨HAT.out.nf hTab, HAT.out.nr hTab⟩)
              obtain ⟨_, _, x2, _, x4, _⟩ := HC5.out _ HHo.out
              have HC := Lib.hid (cut_any q MA ML MC ms w20 HA.out.i2 H3o.out.f (row_below H3o.out.low HA.out.rm) HA.out.lm (by omega) H3o.out.top)
              go_wp2_with (first
                | (go_at_call 17; (with_reducible refine HC.out.mono ?_); rintro e w10 ⟨rfl, f10, o10⟩; have HS10 := Lib.hid (HHo.out.only o10 HNF.out.1); have H10 := Lib.hid (H3o.out.of_f HAT.out ⟨f10, o10⟩); clear f10 o10 x2 x4; obtain ⟨_, _, y2, _, y4, _⟩ := HC5.out _ HS10.out; have HD := Lib.hid (rcutAt_any q MA ML MC ms w10 H10.out.r (row_below H10.out.low HA.out.rm) HIN.out.2 (by omega) H10.out.top))
                | (go_at_call 18; (with_reducible refine HD.out.mono ?_); rintro e w12 ⟨rfl, f12, o12⟩))
              have HS12 := Lib.hid (HS10.out.only o12 HNF.out.2)
              have H12 := Lib.hid (H10.out.of_r HAT.out ⟨f12, o12⟩)
              clear f12 o12
              go_meet
              case rel => exact ⟨rfl, rfl, _, _, by show S.ops ≤ j + 1; omega, good_cut (HG.out.less (Nat.le_succ d)) q ms (by omega), H12.out, HS12.out⟩
          have w2b : (way == 2) = false := by simpa using w2
          by_cases w3 : way = 3
          · subst w3
            as_aux_lemma =>
              have HIN := Lib.hid (show Clear gr mr kr BA BL ∧ Clear gr mr kr MA ML from ⟨clear_in HA.out.rb (fun b hb => (HAT.out.lr b hb).1), clear_in HA.out.rm (fun b hb => (HAT.out.lr b hb).1)⟩)
              have HRO := Lib.hid (show R.ops = S.ops from HG.out.sim.ops.symm)
              have HNF := Lib.hid (show ¬ In3 g m k ab ∧ ¬ In3 gr mr kr ab from ⟨HAT.out.nf hTab, HAT.out.nr hTab⟩)
              have HC := Lib.hid (power_any w20 H3o.out.f)
              go_wp2_with (first
                | (go_at_call 19; (with_reducible refine HC.out.mono ?_); rintro e w10 ⟨rfl, f10, o10⟩; have HS10 := Lib.hid (HHo.out.only o10 HNF.out.1); have H10 := Lib.hid (H3o.out.of_f HAT.out ⟨f10, o10⟩); clear f10 o10; have HD := Lib.hid (rpower_any w10 H10.out.r))
                | (go_at_call 20; (with_reducible refine HD.out.mono ?_); rintro e w12 ⟨rfl, f12, o12⟩))
              have HS12 := Lib.hid (HS10.out.only o12 HNF.out.2)
              have H12 := Lib.hid (H10.out.of_r HAT.out ⟨f12, o12⟩)
              clear f12 o12
              go_meet
              case rel => exact ⟨rfl, rfl, _, _, by show S.ops ≤ j + 1; omega, good_power (HG.out.less (Nat.le_succ d)), H12.out, HS12.out⟩
          have w3b : (way == 3) = false := by simpa using w3
          go_wp2_with fail
          go_meet
          case rel => exact ⟨rfl, rfl, S, R, by omega, HG.out.less (Nat.le_succ d), H3o.out, HHo.out⟩
        case rest =>
          as_aux_lemma =>
            obtain ⟨rfl, rfl, S1, R1, hS1, hG1, h3d, hHd⟩ := hcut
            obtain ⟨Wd, rfl⟩ : ∃ x, x = wc := ⟨_, rfl⟩
            have HKP := Lib.hid (show ∀ W, Below Wd.heap.size Wd.drew W → Pl0 w T g m k gr mr kr aa ba X Y P Q S1 R1 W ∧ Has W ab 38 cs from fun W hW => ⟨h3d.kept (((Below.refl _ Wd).drew).trans hW), hHd.kept (((Below.refl _ Wd).drew).trans hW)⟩)
            have HG1 := Lib.hid hG1
            have HRO := Lib.hid (show R1.ops = S1.ops from hG1.sim.ops.symm)
            have HD0 := Lib.hid h3d
            have HS7 := Lib.hid (Below.refl Wd.heap.size Wd.drew)
            have hiB : I64 (BL : Int) := ⟨by omega, by omega⟩
            clear cw h3d hHd hG1 H3o HHo HG
            go_wp2_with fail
            refine wp_region_held_drew (S := fun W => Below Wd.heap.size Wd.drew W) (by kernel_rfl) HS7.out ?_
            intro _
            refine wpAnyH_take (i := 0) (v := .slice (some ⟨aa, 0, none⟩) 2 2) rfl (by kernel_rfl) (by kernel_rfl) (by kernel_rfl) (fun _ _ _ h => h) (Or.inl ⟨by rfl, (fun W _ => by go_simp)⟩) HS7.out ?_
            simp only [List.getElem_toArray, List.getElem_cons_succ, List.getElem_cons_zero, Act.put, List.setIfInBounds_toArray, List.set_cons_zero, List.set_cons_succ]
            refine wpAnyH_take (i := 1) (v := .int .i64 (i : Int)) rfl (by kernel_rfl) (by kernel_rfl) (by kernel_rfl) (fun _ _ _ h => h) (Or.inl ⟨by rfl, (fun W _ => by go_simp)⟩) HS7.out ?_
            simp only [List.getElem_toArray, List.getElem_cons_succ, List.getElem_cons_zero, Act.put, List.setIfInBounds_toArray, List.set_cons_zero, List.set_cons_succ]
            refine wpAnyH_take (i := 2) (v := .pointer (some ⟨aa, i, none⟩)) rfl (by kernel_rfl) (by kernel_rfl) (by kernel_rfl) (fun _ _ _ h => h) (Or.inl ⟨by rfl, (fun W _ => by go_simp)⟩) HS7.out ?_
            simp only [List.getElem_toArray, List.getElem_cons_succ, List.getElem_cons_zero, Act.put, List.setIfInBounds_toArray, List.set_cons_zero, List.set_cons_succ]
            refine wpAnyH_take (i := 3) (v := .pointer (some ⟨X i, 0, none⟩)) rfl (by kernel_rfl) (by kernel_rfl) (by kernel_rfl) (fun _ _ _ h => h) (Or.inl ⟨by rfl, (fun W hW => by have q9 := two_at (HKP.out W hW).1.av hi; go_simp)⟩) HS7.out ?_
            simp only [List.getElem_toArray, List.getElem_cons_succ, List.getElem_cons_zero, Act.put, List.setIfInBounds_toArray, List.set_cons_zero, List.set_cons_succ]
            refine wpAnyH_take (i := 4) (v := .pointer (some ⟨ab, 2, none⟩)) rfl (by kernel_rfl) (by kernel_rfl) (by kernel_rfl) (fun _ _ _ h => h) (Or.inl ⟨by rfl, (fun W _ => by go_simp)⟩) HS7.out ?_
            simp only [List.getElem_toArray, List.getElem_cons_succ, List.getElem_cons_zero, Act.put, List.setIfInBounds_toArray, List.set_cons_zero, List.set_cons_succ]
            refine wpAnyH_take (i := 5) (v := .int .i64 q) rfl (by kernel_rfl) (by kernel_rfl) (by kernel_rfl) (fun _ _ _ h => h) (Or.inl ⟨by rfl, (fun W hW => by have q9 := (HC5.out W (HKP.out W hW).2).2.2.1; go_simp)⟩) HS7.out ?_
            simp only [List.getElem_toArray, List.getElem_cons_succ, List.getElem_cons_zero, Act.put, List.setIfInBounds_toArray, List.set_cons_zero, List.set_cons_succ]
            refine wpAnyH_take (i := 6) (v := .pointer (some ⟨ab, 1, none⟩)) rfl (by kernel_rfl) (by kernel_rfl) (by kernel_rfl) (fun _ _ _ h => h) (Or.inl ⟨by rfl, (fun W _ => by go_simp)⟩) HS7.out ?_
            simp only [List.getElem_toArray, List.getElem_cons_succ, List.getElem_cons_zero, Act.put, List.setIfInBounds_toArray, List.set_cons_zero, List.set_cons_succ]
            refine wpAnyH_take (i := 7) (v := .int .i64 at') rfl (by kernel_rfl) (by kernel_rfl) (by kernel_rfl) (fun _ _ _ h => h) (Or.inl ⟨by rfl, (fun W hW => by have q9 := (HC5.out W (HKP.out W hW).2).2.1; go_simp)⟩) HS7.out ?_
            simp only [List.getElem_toArray, List.getElem_cons_succ, List.getElem_cons_zero, Act.put, List.setIfInBounds_toArray, List.set_cons_zero, List.set_cons_succ]
            refine wpAnyH_take (i := 8) (v := .pointer (some ⟨ab, 3, none⟩)) rfl (by kernel_rfl) (by kernel_rfl) (by kernel_rfl) (fun _ _ _ h => h) (Or.inl ⟨by rfl, (fun W _ => by go_simp)⟩) HS7.out ?_
            simp only [List.getElem_toArray, List.getElem_cons_succ, List.getElem_cons_zero, Act.put, List.setIfInBounds_toArray, List.set_cons_zero, List.set_cons_succ]
            refine wpAnyH_take (i := 9) (v := .slice BA BL BC) rfl (by kernel_rfl) (by kernel_rfl) (by kernel_rfl) (fun _ _ _ h => h) (Or.inl ⟨by rfl, (fun W hW => by have q9 := (HC5.out W (HKP.out W hW).2).2.2.2.1; go_simp)⟩) HS7.out ?_
            simp only [List.getElem_toArray, List.getElem_cons_succ, List.getElem_cons_zero, Act.put, List.setIfInBounds_toArray, List.set_cons_zero, List.set_cons_succ]
            refine wpAnyH_take (i := 10) (v := .int .i64 (BL : Int)) rfl (by kernel_rfl) (by kernel_rfl) (by kernel_rfl) (fun _ _ _ h => h) (Or.inl ⟨by rfl, (fun W _ => by go_simp)⟩) HS7.out ?_
            simp only [List.getElem_toArray, List.getElem_cons_succ, List.getElem_cons_zero, Act.put, List.setIfInBounds_toArray, List.set_cons_zero, List.set_cons_succ]
            refine wpAnyH_take (i := 13) (v := .slice (some ⟨ba, 0, none⟩) 2 2) rfl (by kernel_rfl) (by kernel_rfl) (by kernel_rfl) (fun _ _ _ h => h) (Or.inl ⟨by rfl, (fun W _ => by go_simp)⟩) HS7.out ?_
            simp only [List.getElem_toArray, List.getElem_cons_succ, List.getElem_cons_zero, Act.put, List.setIfInBounds_toArray, List.set_cons_zero, List.set_cons_succ]
            refine wpAnyH_take (i := 14) (v := .int .i64 (i : Int)) rfl (by kernel_rfl) (by kernel_rfl) (by kernel_rfl) (fun _ _ _ h => h) (Or.inl ⟨by rfl, (fun W _ => by go_simp)⟩) HS7.out ?_
            simp only [List.getElem_toArray, List.getElem_cons_succ, List.getElem_cons_zero, Act.put, List.setIfInBounds_toArray, List.set_cons_zero, List.set_cons_succ]
            refine wpAnyH_take (i := 15) (v := .pointer (some ⟨ba, i, none⟩)) rfl (by kernel_rfl) (by kernel_rfl) (by kernel_rfl) (fun _ _ _ h => h) (Or.inl ⟨by rfl, (fun W _ => by go_simp)⟩) HS7.out ?_
            simp only [List.getElem_toArray, List.getElem_cons_succ, List.getElem_cons_zero, Act.put, List.setIfInBounds_toArray, List.set_cons_zero, List.set_cons_succ]
            refine wpAnyH_take (i := 16) (v := .pointer (some ⟨Y i, 0, none⟩)) rfl (by kernel_rfl) (by kernel_rfl) (by kernel_rfl) (fun _ _ _ h => h) (Or.inl ⟨by rfl, (fun W hW => by have q9 := two_at (HKP.out W hW).1.bv hi; go_simp)⟩) HS7.out ?_
            simp only [List.getElem_toArray, List.getElem_cons_succ, List.getElem_cons_zero, Act.put, List.setIfInBounds_toArray, List.set_cons_zero, List.set_cons_succ]
            refine wpAnyH_take (i := 17) (v := .pointer (some ⟨ab, 2, none⟩)) rfl (by kernel_rfl) (by kernel_rfl) (by kernel_rfl) (fun _ _ _ h => h) (Or.inl ⟨by rfl, (fun W _ => by go_simp)⟩) HS7.out ?_
            simp only [List.getElem_toArray, List.getElem_cons_succ, List.getElem_cons_zero, Act.put, List.setIfInBounds_toArray, List.set_cons_zero, List.set_cons_succ]
            refine wpAnyH_take (i := 18) (v := .int .i64 q) rfl (by kernel_rfl) (by kernel_rfl) (by kernel_rfl) (fun _ _ _ h => h) (Or.inl ⟨by rfl, (fun W hW => by have q9 := (HC5.out W (HKP.out W hW).2).2.2.1; go_simp)⟩) HS7.out ?_
            simp only [List.getElem_toArray, List.getElem_cons_succ, List.getElem_cons_zero, Act.put, List.setIfInBounds_toArray, List.set_cons_zero, List.set_cons_succ]
            refine wpAnyH_take (i := 19) (v := .pointer (some ⟨ab, 1, none⟩)) rfl (by kernel_rfl) (by kernel_rfl) (by kernel_rfl) (fun _ _ _ h => h) (Or.inl ⟨by rfl, (fun W _ => by go_simp)⟩) HS7.out ?_
            simp only [List.getElem_toArray, List.getElem_cons_succ, List.getElem_cons_zero, Act.put, List.setIfInBounds_toArray, List.set_cons_zero, List.set_cons_succ]
            refine wpAnyH_take (i := 20) (v := .int .i64 at') rfl (by kernel_rfl) (by kernel_rfl) (by kernel_rfl) (fun _ _ _ h => h) (Or.inl ⟨by rfl, (fun W hW => by have q9 := (HC5.out W (HKP.out W hW).2).2.1; go_simp)⟩) HS7.out ?_
            simp only [List.getElem_toArray, List.getElem_cons_succ, List.getElem_cons_zero, Act.put, List.setIfInBounds_toArray, List.set_cons_zero, List.set_cons_succ]
            refine wpAnyH_take (i := 21) (v := .pointer (some ⟨ab, 3, none⟩)) rfl (by kernel_rfl) (by kernel_rfl) (by kernel_rfl) (fun _ _ _ h => h) (Or.inl ⟨by rfl, (fun W _ => by go_simp)⟩) HS7.out ?_
            simp only [List.getElem_toArray, List.getElem_cons_succ, List.getElem_cons_zero, Act.put, List.setIfInBounds_toArray, List.set_cons_zero, List.set_cons_succ]
            refine wpAnyH_take (i := 22) (v := .slice BA BL BC) rfl (by kernel_rfl) (by kernel_rfl) (by kernel_rfl) (fun _ _ _ h => h) (Or.inl ⟨by rfl, (fun W hW => by have q9 := (HC5.out W (HKP.out W hW).2).2.2.2.1; go_simp)⟩) HS7.out ?_
            simp only [List.getElem_toArray, List.getElem_cons_succ, List.getElem_cons_zero, Act.put, List.setIfInBounds_toArray, List.set_cons_zero, List.set_cons_succ]
            refine wpAnyH_take (i := 23) (v := .int .i64 (BL : Int)) rfl (by kernel_rfl) (by kernel_rfl) (by kernel_rfl) (fun _ _ _ h => h) (Or.inl ⟨by rfl, (fun W _ => by go_simp)⟩) HS7.out ?_
            simp only [List.getElem_toArray, List.getElem_cons_succ, List.getElem_cons_zero, Act.put, List.setIfInBounds_toArray, List.set_cons_zero, List.set_cons_succ]
            refine wpAnyH_ready (rs := [11]) (by kernel_rfl) (by simp) ?_
            refine AllReadyH.cons rfl (fun K hK => ?_) AllReadyH.nil
            go_simp
            refine (aread_any q at' BL Wd.drew ((HKP.out _ HS7.out).1.a i hi) (HKP.out _ HS7.out).1.f (by rw [HG1.out.wl]; exact HPO.out i) HA.out.i1 hiB).mono ?_
            rintro e w43 ⟨A43, c43, rfl, hc43, r43, hA43, b43⟩
            have HS43 := Lib.hid (show Below Wd.heap.size Wd.drew w43 from b43)
            refine hK.out _ _ HS43.out (fun _ => ?_)
            clear hK K
            refine wpAnyH_strong (S' := fun W => Below w43.heap.size w43 W) (fun W h => HS43.out.trans (h.mono HS43.out.size)) _ _ _ _ ?_
            have HS8 := Lib.hid (Below.refl w43.heap.size w43)
            have HCV := Lib.hid (show ∀ W, Below w43.heap.size w43 W → _ from fun W h => conv_row (c := c43) (row_below h r43))
            have HRS := Lib.hid (good_read HG1.out (HLK.out i) q at' BL)
            generalize hrd : aRead S1 (P i) q at' BL = rd at *
            clear hrd r43 hA43 b43
            refine wpAnyH_take (i := 12) (v := .string (strOfNums rd)) rfl (by kernel_rfl) (by kernel_rfl) (by kernel_rfl) (fun _ _ _ h => h) (Or.inl ⟨by rfl, (fun W hW => by have q9 := HCV.out W hW; go_simp)⟩) HS8.out ?_
            simp only [List.getElem_toArray, List.getElem_cons_succ, List.getElem_cons_zero, Act.put, List.setIfInBounds_toArray, List.set_cons_zero, List.set_cons_succ]
            have HRD := raread_any q at' BL w43 ((HKP.out _ HS43.out).1.b i hi) (HKP.out _ HS43.out).1.r (by rw [HG1.out.wr]; exact HQO.out i) HA.out.i1 hiB
            rw [HRS.out] at HRD
            have HRD2 := Lib.hid HRD
            clear HRD
            refine wpAnyH_ready (rs := [24]) (by kernel_rfl) (by simp) ?_
            refine AllReadyH.cons rfl (fun K hK => ?_) AllReadyH.nil
            go_simp
            refine (HRD2.out).mono ?_
            rintro e w51 ⟨A51, c51, rfl, hc51, r51, hA51, b51⟩
            have HS51 := Lib.hid b51
            refine hK.out _ _ HS51.out (fun _ => ?_)
            clear hK K
            refine wpAnyH_strong (S' := fun W => Below w51.heap.size w51 W) (fun W h => HS51.out.trans (h.mono HS51.out.size)) _ _ _ _ ?_
            have HS9 := Lib.hid (Below.refl w51.heap.size w51)
            have HCV2 := Lib.hid (show ∀ W, Below w51.heap.size w51 W → _ from fun W h => conv_row (c := c51) (row_below h r51))
            have HSE := Lib.hid (show Below Wd.heap.size Wd.drew w51 from HS43.out.trans (HS51.out.mono HS43.out.size))
            have HKQ := Lib.hid (show ∀ W, Below w51.heap.size w51 W → Pl0 w T g m k gr mr kr aa ba X Y P Q S1 R1 W ∧ Has W ab 38 cs from fun W hW => HKP.out W (HSE.out.trans (hW.mono HSE.out.size)))
            clear r51 hA51 b51 HRD2 HRS HKP HCV
            refine wpAnyH_take (i := 25) (v := .string (strOfNums rd)) rfl (by kernel_rfl) (by kernel_rfl) (by kernel_rfl) (fun _ _ _ h => h) (Or.inl ⟨by rfl, (fun W hW => by have q9 := HCV2.out W hW; go_simp)⟩) HS9.out ?_
            simp only [List.getElem_toArray, List.getElem_cons_succ, List.getElem_cons_zero, Act.put, List.setIfInBounds_toArray, List.set_cons_zero, List.set_cons_succ]
            refine wpAnyH_take (i := 26) (v := .bool false) rfl (by kernel_rfl) (by kernel_rfl) (by kernel_rfl) (fun _ _ _ h => h) (Or.inl ⟨by rfl, (fun W _ => by go_simp)⟩) HS9.out ?_
            simp only [List.getElem_toArray, List.getElem_cons_succ, List.getElem_cons_zero, Act.put, List.setIfInBounds_toArray, List.set_cons_zero, List.set_cons_succ]
            refine wpAnyH_take (i := 27) (v := .bool false) rfl (by kernel_rfl) (by kernel_rfl) (by kernel_rfl) (fun _ _ _ h => h) (Or.inl ⟨by rfl, (fun W _ => by go_simp)⟩) HS9.out ?_
            simp only [List.getElem_toArray, List.getElem_cons_succ, List.getElem_cons_zero, Act.put, List.setIfInBounds_toArray, List.set_cons_zero, List.set_cons_succ]
            refine wpAnyH_take (i := 28) (v := .slice (some ⟨aa, 0, none⟩) 2 2) rfl (by kernel_rfl) (by kernel_rfl) (by kernel_rfl) (fun _ _ _ h => h) (Or.inl ⟨by rfl, (fun W _ => by go_simp)⟩) HS9.out ?_
            simp only [List.getElem_toArray, List.getElem_cons_succ, List.getElem_cons_zero, Act.put, List.setIfInBounds_toArray, List.set_cons_zero, List.set_cons_succ]
            refine wpAnyH_take (i := 29) (v := .int .i64 (i : Int)) rfl (by kernel_rfl) (by kernel_rfl) (by kernel_rfl) (fun _ _ _ h => h) (Or.inl ⟨by rfl, (fun W _ => by go_simp)⟩) HS9.out ?_
            simp only [List.getElem_toArray, List.getElem_cons_succ, List.getElem_cons_zero, Act.put, List.setIfInBounds_toArray, List.set_cons_zero, List.set_cons_succ]
            refine wpAnyH_take (i := 30) (v := .pointer (some ⟨aa, i, none⟩)) rfl (by kernel_rfl) (by kernel_rfl) (by kernel_rfl) (fun _ _ _ h => h) (Or.inl ⟨by rfl, (fun W _ => by go_simp)⟩) HS9.out ?_
            simp only [List.getElem_toArray, List.getElem_cons_succ, List.getElem_cons_zero, Act.put, List.setIfInBounds_toArray, List.set_cons_zero, List.set_cons_succ]
            refine wpAnyH_take (i := 31) (v := .pointer (some ⟨X i, 0, none⟩)) rfl (by kernel_rfl) (by kernel_rfl) (by kernel_rfl) (fun _ _ _ h => h) (Or.inl ⟨by rfl, (fun W hW => by have q9 := two_at (HKQ.out W hW).1.av hi; go_simp)⟩) HS9.out ?_
            simp only [List.getElem_toArray, List.getElem_cons_succ, List.getElem_cons_zero, Act.put, List.setIfInBounds_toArray, List.set_cons_zero, List.set_cons_succ]
            refine wpAnyH_take (i := 32) (v := .pointer (some ⟨ab, 2, none⟩)) rfl (by kernel_rfl) (by kernel_rfl) (by kernel_rfl) (fun _ _ _ h => h) (Or.inl ⟨by rfl, (fun W _ => by go_simp)⟩) HS9.out ?_
            simp only [List.getElem_toArray, List.getElem_cons_succ, List.getElem_cons_zero, Act.put, List.setIfInBounds_toArray, List.set_cons_zero, List.set_cons_succ]
            refine wpAnyH_take (i := 33) (v := .int .i64 q) rfl (by kernel_rfl) (by kernel_rfl) (by kernel_rfl) (fun _ _ _ h => h) (Or.inl ⟨by rfl, (fun W hW => by have q9 := (HC5.out W (HKQ.out W hW).2).2.2.1; go_simp)⟩) HS9.out ?_
            simp only [List.getElem_toArray, List.getElem_cons_succ, List.getElem_cons_zero, Act.put, List.setIfInBounds_toArray, List.set_cons_zero, List.set_cons_succ]
            refine wpAnyH_take (i := 35) (v := .slice (some ⟨ba, 0, none⟩) 2 2) rfl (by kernel_rfl) (by kernel_rfl) (by kernel_rfl) (fun _ _ _ h => h) (Or.inl ⟨by rfl, (fun W _ => by go_simp)⟩) HS9.out ?_
            simp only [List.getElem_toArray, List.getElem_cons_succ, List.getElem_cons_zero, Act.put, List.setIfInBounds_toArray, List.set_cons_zero, List.set_cons_succ]
            refine wpAnyH_take (i := 36) (v := .int .i64 (i : Int)) rfl (by kernel_rfl) (by kernel_rfl) (by kernel_rfl) (fun _ _ _ h => h) (Or.inl ⟨by rfl, (fun W _ => by go_simp)⟩) HS9.out ?_
            simp only [List.getElem_toArray, List.getElem_cons_succ, List.getElem_cons_zero, Act.put, List.setIfInBounds_toArray, List.set_cons_zero, List.set_cons_succ]
            refine wpAnyH_take (i := 37) (v := .pointer (some ⟨ba, i, none⟩)) rfl (by kernel_rfl) (by kernel_rfl) (by kernel_rfl) (fun _ _ _ h => h) (Or.inl ⟨by rfl, (fun W _ => by go_simp)⟩) HS9.out ?_
            simp only [List.getElem_toArray, List.getElem_cons_succ, List.getElem_cons_zero, Act.put, List.setIfInBounds_toArray, List.set_cons_zero, List.set_cons_succ]
            refine wpAnyH_take (i := 38) (v := .pointer (some ⟨Y i, 0, none⟩)) rfl (by kernel_rfl) (by kernel_rfl) (by kernel_rfl) (fun _ _ _ h => h) (Or.inl ⟨by rfl, (fun W hW => by have q9 := two_at (HKQ.out W hW).1.bv hi; go_simp)⟩) HS9.out ?_
            simp only [List.getElem_toArray, List.getElem_cons_succ, List.getElem_cons_zero, Act.put, List.setIfInBounds_toArray, List.set_cons_zero, List.set_cons_succ]
            refine wpAnyH_take (i := 39) (v := .pointer (some ⟨ab, 2, none⟩)) rfl (by kernel_rfl) (by kernel_rfl) (by kernel_rfl) (fun _ _ _ h => h) (Or.inl ⟨by rfl, (fun W _ => by go_simp)⟩) HS9.out ?_
            simp only [List.getElem_toArray, List.getElem_cons_succ, List.getElem_cons_zero, Act.put, List.setIfInBounds_toArray, List.set_cons_zero, List.set_cons_succ]
            refine wpAnyH_take (i := 40) (v := .int .i64 q) rfl (by kernel_rfl) (by kernel_rfl) (by kernel_rfl) (fun _ _ _ h => h) (Or.inl ⟨by rfl, (fun W hW => by have q9 := (HC5.out W (HKQ.out W hW).2).2.2.1; go_simp)⟩) HS9.out ?_
            simp only [List.getElem_toArray, List.getElem_cons_succ, List.getElem_cons_zero, Act.put, List.setIfInBounds_toArray, List.set_cons_zero, List.set_cons_succ]
            refine wpAnyH_ready (rs := [34]) (by kernel_rfl) (by simp) ?_
            refine AllReadyH.cons rfl (fun K hK => ?_) AllReadyH.nil
            go_simp
            refine (left_any q w51 ((HKQ.out _ HS9.out).1.a i hi) (HKQ.out _ HS9.out).1.f HG1.out.fs (by omega) (by rw [HG1.out.wl]; exact HPO.out i)).mono ?_
            rintro e w60 ⟨rfl, b60⟩
            have HS60 := Lib.hid (show Below w51.heap.size w51 w60 from b60)
            clear b60
            refine hK.out _ _ HS60.out (fun _ => ?_)
            clear hK K
            refine wpAnyH_ready (rs := [41]) (by kernel_rfl) (by simp) ?_
            refine AllReadyH.cons rfl (fun K hK => ?_) AllReadyH.nil
            go_simp
            refine (rleft_any q w60 ((HKQ.out _ HS60.out).1.b i hi) (HKQ.out _ HS60.out).1.r HG1.out.fr (by rw [HRO.out]; omega) (by rw [HG1.out.wr]; exact HQO.out i)).mono ?_
            rintro e w61 ⟨rfl, b61⟩
            have HS61 := Lib.hid (HS60.out.trans (b61.mono HS60.out.size))
            clear b61
            rw [good_left HG1.out (HLK.out i)]
            refine hK.out _ _ HS61.out (fun _ => ?_)
            clear hK K
            refine wpAnyH_take (i := 42) (v := .bool false) rfl (by kernel_rfl) (by kernel_rfl) (by kernel_rfl) (fun _ _ _ h => h) (Or.inl ⟨by rfl, (fun W _ => by go_simp)⟩) HS61.out ?_
            simp only [List.getElem_toArray, List.getElem_cons_succ, List.getElem_cons_zero, Act.put, List.setIfInBounds_toArray, List.set_cons_zero, List.set_cons_succ]
            refine wpAnyH_take (i := 43) (v := .bool false) rfl (by kernel_rfl) (by kernel_rfl) (by kernel_rfl) (fun _ _ _ h => h) (Or.inl ⟨by rfl, (fun W _ => by go_simp)⟩) HS61.out ?_
            simp only [List.getElem_toArray, List.getElem_cons_succ, List.getElem_cons_zero, Act.put, List.setIfInBounds_toArray, List.set_cons_zero, List.set_cons_succ]
            refine wpAnyH_take (i := 44) (v := .bool false) rfl (by kernel_rfl) (by kernel_rfl) (by kernel_rfl) (fun _ _ _ h => h) (Or.inl ⟨by rfl, (fun W _ => by go_simp)⟩) HS61.out ?_
            simp only [List.getElem_toArray, List.getElem_cons_succ, List.getElem_cons_zero, Act.put, List.setIfInBounds_toArray, List.set_cons_zero, List.set_cons_succ]
            refine wpAnyH_take (i := 45) (v := .slice (some ⟨aa, 0, none⟩) 2 2) rfl (by kernel_rfl) (by kernel_rfl) (by kernel_rfl) (fun _ _ _ h => h) (Or.inl ⟨by rfl, (fun W _ => by go_simp)⟩) HS61.out ?_
            simp only [List.getElem_toArray, List.getElem_cons_succ, List.getElem_cons_zero, Act.put, List.setIfInBounds_toArray, List.set_cons_zero, List.set_cons_succ]
            refine wpAnyH_take (i := 46) (v := .int .i64 (i : Int)) rfl (by kernel_rfl) (by kernel_rfl) (by kernel_rfl) (fun _ _ _ h => h) (Or.inl ⟨by rfl, (fun W _ => by go_simp)⟩) HS61.out ?_
            simp only [List.getElem_toArray, List.getElem_cons_succ, List.getElem_cons_zero, Act.put, List.setIfInBounds_toArray, List.set_cons_zero, List.set_cons_succ]
            refine wpAnyH_take (i := 47) (v := .pointer (some ⟨aa, i, none⟩)) rfl (by kernel_rfl) (by kernel_rfl) (by kernel_rfl) (fun _ _ _ h => h) (Or.inl ⟨by rfl, (fun W _ => by go_simp)⟩) HS61.out ?_
            simp only [List.getElem_toArray, List.getElem_cons_succ, List.getElem_cons_zero, Act.put, List.setIfInBounds_toArray, List.set_cons_zero, List.set_cons_succ]
            refine wpAnyH_take (i := 48) (v := .pointer (some ⟨X i, 0, none⟩)) rfl (by kernel_rfl) (by kernel_rfl) (by kernel_rfl) (fun _ _ _ h => h) (Or.inl ⟨by rfl, (fun W hW => by have q9 := two_at (HKQ.out W hW).1.av hi; go_simp)⟩) HS61.out ?_
            simp only [List.getElem_toArray, List.getElem_cons_succ, List.getElem_cons_zero, Act.put, List.setIfInBounds_toArray, List.set_cons_zero, List.set_cons_succ]
            refine wpAnyH_take (i := 49) (v := .pointer (some ⟨ab, 2, none⟩)) rfl (by kernel_rfl) (by kernel_rfl) (by kernel_rfl) (fun _ _ _ h => h) (Or.inl ⟨by rfl, (fun W _ => by go_simp)⟩) HS61.out ?_
            simp only [List.getElem_toArray, List.getElem_cons_succ, List.getElem_cons_zero, Act.put, List.setIfInBounds_toArray, List.set_cons_zero, List.set_cons_succ]
            refine wpAnyH_take (i := 50) (v := .int .i64 q) rfl (by kernel_rfl) (by kernel_rfl) (by kernel_rfl) (fun _ _ _ h => h) (Or.inl ⟨by rfl, (fun W hW => by have q9 := (HC5.out W (HKQ.out W hW).2).2.2.1; go_simp)⟩) HS61.out ?_
            simp only [List.getElem_toArray, List.getElem_cons_succ, List.getElem_cons_zero, Act.put, List.setIfInBounds_toArray, List.set_cons_zero, List.set_cons_succ]
            refine wpAnyH_take (i := 52) (v := .slice (some ⟨ba, 0, none⟩) 2 2) rfl (by kernel_rfl) (by kernel_rfl) (by kernel_rfl) (fun _ _ _ h => h) (Or.inl ⟨by rfl, (fun W _ => by go_simp)⟩) HS61.out ?_
            simp only [List.getElem_toArray, List.getElem_cons_succ, List.getElem_cons_zero, Act.put, List.setIfInBounds_toArray, List.set_cons_zero, List.set_cons_succ]
            refine wpAnyH_take (i := 53) (v := .int .i64 (i : Int)) rfl (by kernel_rfl) (by kernel_rfl) (by kernel_rfl) (fun _ _ _ h => h) (Or.inl ⟨by rfl, (fun W _ => by go_simp)⟩) HS61.out ?_
            simp only [List.getElem_toArray, List.getElem_cons_succ, List.getElem_cons_zero, Act.put, List.setIfInBounds_toArray, List.set_cons_zero, List.set_cons_succ]
            refine wpAnyH_take (i := 54) (v := .pointer (some ⟨ba, i, none⟩)) rfl (by kernel_rfl) (by kernel_rfl) (by kernel_rfl) (fun _ _ _ h => h) (Or.inl ⟨by rfl, (fun W _ => by go_simp)⟩) HS61.out ?_
            simp only [List.getElem_toArray, List.getElem_cons_succ, List.getElem_cons_zero, Act.put, List.setIfInBounds_toArray, List.set_cons_zero, List.set_cons_succ]
            refine wpAnyH_take (i := 55) (v := .pointer (some ⟨Y i, 0, none⟩)) rfl (by kernel_rfl) (by kernel_rfl) (by kernel_rfl) (fun _ _ _ h => h) (Or.inl ⟨by rfl, (fun W hW => by have q9 := two_at (HKQ.out W hW).1.bv hi; go_simp)⟩) HS61.out ?_
            simp only [List.getElem_toArray, List.getElem_cons_succ, List.getElem_cons_zero, Act.put, List.setIfInBounds_toArray, List.set_cons_zero, List.set_cons_succ]
            refine wpAnyH_take (i := 56) (v := .pointer (some ⟨ab, 2, none⟩)) rfl (by kernel_rfl) (by kernel_rfl) (by kernel_rfl) (fun _ _ _ h => h) (Or.inl ⟨by rfl, (fun W _ => by go_simp)⟩) HS61.out ?_
            simp only [List.getElem_toArray, List.getElem_cons_succ, List.getElem_cons_zero, Act.put, List.setIfInBounds_toArray, List.set_cons_zero, List.set_cons_succ]
            refine wpAnyH_take (i := 57) (v := .int .i64 q) rfl (by kernel_rfl) (by kernel_rfl) (by kernel_rfl) (fun _ _ _ h => h) (Or.inl ⟨by rfl, (fun W hW => by have q9 := (HC5.out W (HKQ.out W hW).2).2.2.1; go_simp)⟩) HS61.out ?_
            simp only [List.getElem_toArray, List.getElem_cons_succ, List.getElem_cons_zero, Act.put, List.setIfInBounds_toArray, List.set_cons_zero, List.set_cons_succ]
            refine wpAnyH_ready (rs := [51]) (by kernel_rfl) (by simp) ?_
            refine AllReadyH.cons rfl (fun K hK => ?_) AllReadyH.nil
            go_simp
            refine (ablank_any q w61 ((HKQ.out _ HS61.out).1.a i hi) (HKQ.out _ HS61.out).1.f (by rw [HG1.out.wl]; exact HPO.out i)).mono ?_
            rintro e w62 ⟨rfl, b62⟩
            have HS62 := Lib.hid (HS61.out.trans (b62.mono HS61.out.size))
            clear b62
            refine hK.out _ _ HS62.out (fun _ => ?_)
            clear hK K
            refine wpAnyH_ready (rs := [58]) (by kernel_rfl) (by simp) ?_
            refine AllReadyH.cons rfl (fun K hK => ?_) AllReadyH.nil
            go_simp
            refine (rablank_any q w62 ((HKQ.out _ HS62.out).1.b i hi) (HKQ.out _ HS62.out).1.r (by rw [HG1.out.wr]; exact HQO.out i)).mono ?_
            rintro e w63 ⟨rfl, b63⟩
            have HS63 := Lib.hid (HS62.out.trans (b63.mono HS62.out.size))
            clear b63
            rw [good_blank HG1.out (HLK.out i)]
            refine hK.out _ _ HS63.out (fun _ => ?_)
            clear hK K
            refine wpAnyH_take (i := 59) (v := .bool false) rfl (by kernel_rfl) (by kernel_rfl) (by kernel_rfl) (fun _ _ _ h => h) (Or.inl ⟨by rfl, (fun W _ => by go_simp)⟩) HS63.out ?_
            simp only [List.getElem_toArray, List.getElem_cons_succ, List.getElem_cons_zero, Act.put, List.setIfInBounds_toArray, List.set_cons_zero, List.set_cons_succ]
            refine wpAnyH_take (i := 60) (v := .bool false) rfl (by kernel_rfl) (by kernel_rfl) (by kernel_rfl) (fun _ _ _ h => h) (Or.inl ⟨by rfl, (fun W _ => by go_simp)⟩) HS63.out ?_
            simp only [List.getElem_toArray, List.getElem_cons_succ, List.getElem_cons_zero, Act.put, List.setIfInBounds_toArray, List.set_cons_zero, List.set_cons_succ]
            refine wpAnyH_done (by kernel_rfl) ?_ _
            have H3e := Lib.hid (HKQ.out _ HS63.out).1
            have hdd : len - (j + 1) = d := by omega
            clear HC5 HKQ HCV2
            go_wp2_with fail
            go_roundw
            case rel => exact ⟨j + 1, S1, R1, by go_num, by omega, hS1, by rw [hdd]; exact HG1.out, H3e.out⟩
            case measure => simp [intOf]; omega
    · obtain rfl : j = len := by omega
      as_aux_lemma =>
        have HKP := Lib.hid (show ∀ W, Below Wz.heap.size Wz.drew W → Pl0 w T g m k gr mr kr aa ba X Y P Q S R W from fun W hW => h3x.kept (((Below.refl _ Wz).drew).trans hW))
        have HG := Lib.hid hG
        have HRO := Lib.hid (show R.ops = S.ops from hG.sim.ops.symm)
        have HS7 := Lib.hid (Below.refl Wz.heap.size Wz.drew)
        obtain ⟨D, hD⟩ : ∃ D : Nat → List Int, (fun i => aDig S (P i)) = D := ⟨_, rfl⟩
        have HDL := Lib.hid (show ∀ i, (D i).length = 32 from fun i => by rw [← hD]; rfl)
        have HKD := Lib.hid (show ∀ W, Below Wz.heap.size Wz.drew W → ∀ i, i < 2 → Calls Tryd.prog 27 #[.pointer (some ⟨X i, 0, none⟩)] W (fun e w' => e = .returned (.agg (Sha.nums (D i)).toArray) ∧ Below W.heap.size W w') ∧ Calls Tryd.prog 28 #[.pointer (some ⟨Y i, 0, none⟩)] W (fun e w' => e = .returned (.agg (Sha.nums (D i)).toArray) ∧ Below W.heap.size W w') from fun W hW i hi => by
          have hk := HKP.out W hW
          rw [← hD]
          refine ⟨adigest_any W (hk.a i hi) hk.f (by rw [HG.out.wl]; exact HPO.out i) HG.out.fs (by omega) (HT.out.kept hk.low), ?_⟩
          have := radigest_any W (hk.b i hi) hk.r (by rw [HG.out.wr]; exact HQO.out i) HG.out.fr (by rw [HRO.out]; omega)
          rw [good_dig HG.out (HLK.out i)] at this
          exact this)
        have heq0 := Sha.eq24 (D 0) (HDL.out 0)
        have heq1 := Sha.eq24 (D 1) (HDL.out 1)
        have HLW := Lib.hid h3x.low
        clear h3x hG hD
        go_wp2_with fail
        refine wp_region_held_drew (S := fun W => Below Wz.heap.size Wz.drew W) (by kernel_rfl) HS7.out ?_
        intro _
        refine wpAnyH_take (i := 0) (v := .slice (some ⟨aa, 0, none⟩) 2 2) rfl (by kernel_rfl) (by kernel_rfl) (by kernel_rfl) (fun _ _ _ h => h) (Or.inl ⟨by rfl, (fun W _ => by go_simp)⟩) HS7.out ?_
        simp only [List.getElem_toArray, List.getElem_cons_succ, List.getElem_cons_zero, Act.put, List.setIfInBounds_toArray, List.set_cons_zero, List.set_cons_succ]
        refine wpAnyH_take (i := 1) (v := .pointer (some ⟨aa, 0, none⟩)) rfl (by kernel_rfl) (by kernel_rfl) (by kernel_rfl) (fun _ _ _ h => h) (Or.inl ⟨by rfl, (fun W _ => by go_simp)⟩) HS7.out ?_
        simp only [List.getElem_toArray, List.getElem_cons_succ, List.getElem_cons_zero, Act.put, List.setIfInBounds_toArray, List.set_cons_zero, List.set_cons_succ]
        refine wpAnyH_take (i := 2) (v := .pointer (some ⟨X 0, 0, none⟩)) rfl (by kernel_rfl) (by kernel_rfl) (by kernel_rfl) (fun _ _ _ h => h) (Or.inl ⟨by rfl, (fun W hW => by have q9 := two_at (HKP.out W hW).av (i := 0) (by omega); go_simp)⟩) HS7.out ?_
        simp only [List.getElem_toArray, List.getElem_cons_succ, List.getElem_cons_zero, Act.put, List.setIfInBounds_toArray, List.set_cons_zero, List.set_cons_succ]
        refine wpAnyH_take (i := 3) (v := .bool true) rfl (by kernel_rfl) (by kernel_rfl) (by kernel_rfl) (fun _ _ _ h => h) (Or.inl ⟨by rfl, (fun W _ => by go_simp)⟩) HS7.out ?_
        simp only [List.getElem_toArray, List.getElem_cons_succ, List.getElem_cons_zero, Act.put, List.setIfInBounds_toArray, List.set_cons_zero, List.set_cons_succ]
        refine wpAnyH_take (i := 4) (v := .bool true) rfl (by kernel_rfl) (by kernel_rfl) (by kernel_rfl) (fun _ _ _ h => h) (Or.inl ⟨by rfl, (fun W _ => by go_simp)⟩) HS7.out ?_
        simp only [List.getElem_toArray, List.getElem_cons_succ, List.getElem_cons_zero, Act.put, List.setIfInBounds_toArray, List.set_cons_zero, List.set_cons_succ]
        refine wpAnyH_take (i := 5) (v := .slice (some ⟨aa, 0, none⟩) 2 2) rfl (by kernel_rfl) (by kernel_rfl) (by kernel_rfl) (fun _ _ _ h => h) (Or.inl ⟨by rfl, (fun W _ => by go_simp)⟩) HS7.out ?_
        simp only [List.getElem_toArray, List.getElem_cons_succ, List.getElem_cons_zero, Act.put, List.setIfInBounds_toArray, List.set_cons_zero, List.set_cons_succ]
        refine wpAnyH_take (i := 6) (v := .pointer (some ⟨aa, 1, none⟩)) rfl (by kernel_rfl) (by kernel_rfl) (by kernel_rfl) (fun _ _ _ h => h) (Or.inl ⟨by rfl, (fun W _ => by go_simp)⟩) HS7.out ?_
        simp only [List.getElem_toArray, List.getElem_cons_succ, List.getElem_cons_zero, Act.put, List.setIfInBounds_toArray, List.set_cons_zero, List.set_cons_succ]
        refine wpAnyH_take (i := 7) (v := .pointer (some ⟨X 1, 0, none⟩)) rfl (by kernel_rfl) (by kernel_rfl) (by kernel_rfl) (fun _ _ _ h => h) (Or.inl ⟨by rfl, (fun W hW => by have q9 := two_at (HKP.out W hW).av (i := 1) (by omega); go_simp)⟩) HS7.out ?_
        simp only [List.getElem_toArray, List.getElem_cons_succ, List.getElem_cons_zero, Act.put, List.setIfInBounds_toArray, List.set_cons_zero, List.set_cons_succ]
        refine wpAnyH_take (i := 8) (v := .bool true) rfl (by kernel_rfl) (by kernel_rfl) (by kernel_rfl) (fun _ _ _ h => h) (Or.inl ⟨by rfl, (fun W _ => by go_simp)⟩) HS7.out ?_
        simp only [List.getElem_toArray, List.getElem_cons_succ, List.getElem_cons_zero, Act.put, List.setIfInBounds_toArray, List.set_cons_zero, List.set_cons_succ]
        refine wpAnyH_take (i := 9) (v := .bool true) rfl (by kernel_rfl) (by kernel_rfl) (by kernel_rfl) (fun _ _ _ h => h) (Or.inl ⟨by rfl, (fun W _ => by go_simp)⟩) HS7.out ?_
        simp only [List.getElem_toArray, List.getElem_cons_succ, List.getElem_cons_zero, Act.put, List.setIfInBounds_toArray, List.set_cons_zero, List.set_cons_succ]
        refine wpAnyH_take (i := 10) (v := .bool true) rfl (by kernel_rfl) (by kernel_rfl) (by kernel_rfl) (fun _ _ _ h => h) (Or.inl ⟨by rfl, (fun W _ => by go_simp)⟩) HS7.out ?_
        simp only [List.getElem_toArray, List.getElem_cons_succ, List.getElem_cons_zero, Act.put, List.setIfInBounds_toArray, List.set_cons_zero, List.set_cons_succ]
        refine wpAnyH_take (i := 11) (v := .slice (some ⟨aa, 0, none⟩) 2 2) rfl (by kernel_rfl) (by kernel_rfl) (by kernel_rfl) (fun _ _ _ h => h) (Or.inl ⟨by rfl, (fun W _ => by go_simp)⟩) HS7.out ?_
        simp only [List.getElem_toArray, List.getElem_cons_succ, List.getElem_cons_zero, Act.put, List.setIfInBounds_toArray, List.set_cons_zero, List.set_cons_succ]
        refine wpAnyH_take (i := 12) (v := .pointer (some ⟨aa, 0, none⟩)) rfl (by kernel_rfl) (by kernel_rfl) (by kernel_rfl) (fun _ _ _ h => h) (Or.inl ⟨by rfl, (fun W _ => by go_simp)⟩) HS7.out ?_
        simp only [List.getElem_toArray, List.getElem_cons_succ, List.getElem_cons_zero, Act.put, List.setIfInBounds_toArray, List.set_cons_zero, List.set_cons_succ]
        refine wpAnyH_take (i := 13) (v := .pointer (some ⟨X 0, 0, none⟩)) rfl (by kernel_rfl) (by kernel_rfl) (by kernel_rfl) (fun _ _ _ h => h) (Or.inl ⟨by rfl, (fun W hW => by have q9 := two_at (HKP.out W hW).av (i := 0) (by omega); go_simp)⟩) HS7.out ?_
        simp only [List.getElem_toArray, List.getElem_cons_succ, List.getElem_cons_zero, Act.put, List.setIfInBounds_toArray, List.set_cons_zero, List.set_cons_succ]
        refine wpAnyH_take (i := 15) (v := .slice (some ⟨ba, 0, none⟩) 2 2) rfl (by kernel_rfl) (by kernel_rfl) (by kernel_rfl) (fun _ _ _ h => h) (Or.inl ⟨by rfl, (fun W _ => by go_simp)⟩) HS7.out ?_
        simp only [List.getElem_toArray, List.getElem_cons_succ, List.getElem_cons_zero, Act.put, List.setIfInBounds_toArray, List.set_cons_zero, List.set_cons_succ]
        refine wpAnyH_take (i := 16) (v := .pointer (some ⟨ba, 0, none⟩)) rfl (by kernel_rfl) (by kernel_rfl) (by kernel_rfl) (fun _ _ _ h => h) (Or.inl ⟨by rfl, (fun W _ => by go_simp)⟩) HS7.out ?_
        simp only [List.getElem_toArray, List.getElem_cons_succ, List.getElem_cons_zero, Act.put, List.setIfInBounds_toArray, List.set_cons_zero, List.set_cons_succ]
        refine wpAnyH_take (i := 17) (v := .pointer (some ⟨Y 0, 0, none⟩)) rfl (by kernel_rfl) (by kernel_rfl) (by kernel_rfl) (fun _ _ _ h => h) (Or.inl ⟨by rfl, (fun W hW => by have q9 := two_at (HKP.out W hW).bv (i := 0) (by omega); go_simp)⟩) HS7.out ?_
        simp only [List.getElem_toArray, List.getElem_cons_succ, List.getElem_cons_zero, Act.put, List.setIfInBounds_toArray, List.set_cons_zero, List.set_cons_succ]
        refine wpAnyH_ready (rs := [14]) (by kernel_rfl) (by simp) ?_
        refine AllReadyH.cons rfl (fun K hK => ?_) AllReadyH.nil
        go_simp
        refine ((HKD.out _ HS7.out 0 (by omega)).1).mono ?_
        rintro e w20 ⟨rfl, b20⟩
        have HS20 := Lib.hid (show Below Wz.heap.size Wz.drew w20 from b20)
        clear b20
        refine hK.out _ _ HS20.out (fun _ => ?_)
        clear hK K
        refine wpAnyH_ready (rs := [18]) (by kernel_rfl) (by simp) ?_
        refine AllReadyH.cons rfl (fun K hK => ?_) AllReadyH.nil
        go_simp
        refine ((HKD.out _ HS20.out 0 (by omega)).2).mono ?_
        rintro e w21 ⟨rfl, b21⟩
        have HS21 := Lib.hid (HS20.out.trans (b21.mono HS20.out.size))
        clear b21
        refine hK.out _ _ HS21.out (fun _ => ?_)
        clear hK K
        refine wpAnyH_take (i := 19) (v := .bool true) rfl (by kernel_rfl) (by kernel_rfl) (by kernel_rfl) (fun _ _ _ h => h) (Or.inl ⟨by rfl, (fun W _ => by go_simp)⟩) HS21.out ?_
        simp only [List.getElem_toArray, List.getElem_cons_succ, List.getElem_cons_zero, Act.put, List.setIfInBounds_toArray, List.set_cons_zero, List.set_cons_succ]
        refine wpAnyH_take (i := 20) (v := .bool true) rfl (by kernel_rfl) (by kernel_rfl) (by kernel_rfl) (fun _ _ _ h => h) (Or.inl ⟨by rfl, (fun W _ => by go_simp)⟩) HS21.out ?_
        simp only [List.getElem_toArray, List.getElem_cons_succ, List.getElem_cons_zero, Act.put, List.setIfInBounds_toArray, List.set_cons_zero, List.set_cons_succ]
        refine wpAnyH_take (i := 21) (v := .bool true) rfl (by kernel_rfl) (by kernel_rfl) (by kernel_rfl) (fun _ _ _ h => h) (Or.inl ⟨by rfl, (fun W _ => by go_simp)⟩) HS21.out ?_
        simp only [List.getElem_toArray, List.getElem_cons_succ, List.getElem_cons_zero, Act.put, List.setIfInBounds_toArray, List.set_cons_zero, List.set_cons_succ]
        refine wpAnyH_take (i := 22) (v := .slice (some ⟨aa, 0, none⟩) 2 2) rfl (by kernel_rfl) (by kernel_rfl) (by kernel_rfl) (fun _ _ _ h => h) (Or.inl ⟨by rfl, (fun W _ => by go_simp)⟩) HS21.out ?_
        simp only [List.getElem_toArray, List.getElem_cons_succ, List.getElem_cons_zero, Act.put, List.setIfInBounds_toArray, List.set_cons_zero, List.set_cons_succ]
        refine wpAnyH_take (i := 23) (v := .pointer (some ⟨aa, 1, none⟩)) rfl (by kernel_rfl) (by kernel_rfl) (by kernel_rfl) (fun _ _ _ h => h) (Or.inl ⟨by rfl, (fun W _ => by go_simp)⟩) HS21.out ?_
        simp only [List.getElem_toArray, List.getElem_cons_succ, List.getElem_cons_zero, Act.put, List.setIfInBounds_toArray, List.set_cons_zero, List.set_cons_succ]
        refine wpAnyH_take (i := 24) (v := .pointer (some ⟨X 1, 0, none⟩)) rfl (by kernel_rfl) (by kernel_rfl) (by kernel_rfl) (fun _ _ _ h => h) (Or.inl ⟨by rfl, (fun W hW => by have q9 := two_at (HKP.out W hW).av (i := 1) (by omega); go_simp)⟩) HS21.out ?_
        simp only [List.getElem_toArray, List.getElem_cons_succ, List.getElem_cons_zero, Act.put, List.setIfInBounds_toArray, List.set_cons_zero, List.set_cons_succ]
        refine wpAnyH_take (i := 26) (v := .slice (some ⟨ba, 0, none⟩) 2 2) rfl (by kernel_rfl) (by kernel_rfl) (by kernel_rfl) (fun _ _ _ h => h) (Or.inl ⟨by rfl, (fun W _ => by go_simp)⟩) HS21.out ?_
        simp only [List.getElem_toArray, List.getElem_cons_succ, List.getElem_cons_zero, Act.put, List.setIfInBounds_toArray, List.set_cons_zero, List.set_cons_succ]
        refine wpAnyH_take (i := 27) (v := .pointer (some ⟨ba, 1, none⟩)) rfl (by kernel_rfl) (by kernel_rfl) (by kernel_rfl) (fun _ _ _ h => h) (Or.inl ⟨by rfl, (fun W _ => by go_simp)⟩) HS21.out ?_
        simp only [List.getElem_toArray, List.getElem_cons_succ, List.getElem_cons_zero, Act.put, List.setIfInBounds_toArray, List.set_cons_zero, List.set_cons_succ]
        refine wpAnyH_take (i := 28) (v := .pointer (some ⟨Y 1, 0, none⟩)) rfl (by kernel_rfl) (by kernel_rfl) (by kernel_rfl) (fun _ _ _ h => h) (Or.inl ⟨by rfl, (fun W hW => by have q9 := two_at (HKP.out W hW).bv (i := 1) (by omega); go_simp)⟩) HS21.out ?_
        simp only [List.getElem_toArray, List.getElem_cons_succ, List.getElem_cons_zero, Act.put, List.setIfInBounds_toArray, List.set_cons_zero, List.set_cons_succ]
        refine wpAnyH_ready (rs := [25]) (by kernel_rfl) (by simp) ?_
        refine AllReadyH.cons rfl (fun K hK => ?_) AllReadyH.nil
        go_simp
        refine ((HKD.out _ HS21.out 1 (by omega)).1).mono ?_
        rintro e w22 ⟨rfl, b22⟩
        have HS22 := Lib.hid (HS21.out.trans (b22.mono HS21.out.size))
        clear b22
        refine hK.out _ _ HS22.out (fun _ => ?_)
        clear hK K
        refine wpAnyH_ready (rs := [29]) (by kernel_rfl) (by simp) ?_
        refine AllReadyH.cons rfl (fun K hK => ?_) AllReadyH.nil
        go_simp
        refine ((HKD.out _ HS22.out 1 (by omega)).2).mono ?_
        rintro e w23 ⟨rfl, b23⟩
        have HS23 := Lib.hid (HS22.out.trans (b23.mono HS22.out.size))
        clear b23
        refine hK.out _ _ HS23.out (fun _ => ?_)
        clear hK K
        refine wpAnyH_take (i := 30) (v := .bool true) rfl (by kernel_rfl) (by kernel_rfl) (by kernel_rfl) (fun _ _ _ h => h) (Or.inl ⟨by rfl, (fun W _ => by go_simp)⟩) HS23.out ?_
        simp only [List.getElem_toArray, List.getElem_cons_succ, List.getElem_cons_zero, Act.put, List.setIfInBounds_toArray, List.set_cons_zero, List.set_cons_succ]
        refine wpAnyH_take (i := 31) (v := .bool true) rfl (by kernel_rfl) (by kernel_rfl) (by kernel_rfl) (fun _ _ _ h => h) (Or.inl ⟨by rfl, (fun W _ => by go_simp)⟩) HS23.out ?_
        simp only [List.getElem_toArray, List.getElem_cons_succ, List.getElem_cons_zero, Act.put, List.setIfInBounds_toArray, List.set_cons_zero, List.set_cons_succ]
        refine wpAnyH_take (i := 32) (v := .bool true) rfl (by kernel_rfl) (by kernel_rfl) (by kernel_rfl) (fun _ _ _ h => h) (Or.inl ⟨by rfl, (fun W _ => by go_simp)⟩) HS23.out ?_
        simp only [List.getElem_toArray, List.getElem_cons_succ, List.getElem_cons_zero, Act.put, List.setIfInBounds_toArray, List.set_cons_zero, List.set_cons_succ]
        refine wpAnyH_done (by kernel_rfl) ?_ _
        have hfin := HLW.out.drew.trans (HS23.out.mono HLW.out.size)
        clear heq0 heq1
        go_wp2_with fail
        go_ret
        exact ⟨rfl, hfin⟩
end Go.Proofs.YtgignmjojlolfaaDoor
