/-
  The parts that a row of configs gets, one behind the other: the program's own call; conditions: the row lies in old memory, of at most 8.
-/
import Derived.Test.YtljkngalnoepmaaSh
import Derived.Deep.RegionHeld3
import Derived.Laws.MakeOwn
namespace Go.Proofs.Ytljkngalnoepmaa
open Go.RowKit
set_option linter.unusedVariables false
set_option linter.unusedSimpArgs false

theorem yields_ld {ops : Array Oper} {S : World → Prop} {o : Oper} {a : Act} (hw : Region.wanted o (yielded ops a.tmps) = true) (ty : TypeId) (x : Operand) (ho : o.op = .load ty x) (p v : Value)
    (hS : ∀ W, S W → (Instr.loadAt ty p).run Try.prog W = .ok v W) (hx : a.eval x = p) : YieldsIf Try.prog ops S o v a :=
  Or.inl ⟨hw, fun W hW => by
    unfold execOp
    simp only [ho, hx, Sem.run_bind, hS W hW, Result.andThen_ok, Sem.run_pure]⟩
theorem make_caps (w : World) (n : Nat) (hn : n ≤ 8) : ∃ w', (Instr.makeSlice 27 (.int .i64 0) (.int .i64 (n : Int))).run Try.prog w = .ok (.slice (some ⟨w.heap.size, 0, none⟩) 0 n) w' ∧ OwnP w' w.heap.size (.slice (some ⟨w.heap.size, 0, none⟩) 0 n) 0 [] ∧ w.grownBy w' none := by
  obtain ⟨i, hi, hz, hs, hb⟩ := parts_info info24
  exact run_make_own w w.heap.size 27 24 i _ 3 Try.underlying27 hi hz hs .i64 .i64 n (by rw [hb]; omega) (by unfold maxLen; omega) (Nat.le_refl _)
theorem ownsRow_low {w : World} {base base' e k : Nat} {v : Value} {n : Nat} {xs : List Value} (h : w.ownsRow base e k v n xs) (hb : base' ≤ base) : w.ownsRow base' e k v n xs := by
  obtain ⟨h1, h2⟩ := h
  refine ⟨h1, ?_⟩
  rcases h2 with h2 | ⟨g, cap, cur, e1, e2, e3⟩
  · exact .inl h2
  · exact .inr ⟨g, cap, cur, e1, by omega, e3⟩
theorem need_is {c : Cf} {d : Int} (h : needN c = d) (w : World) : Calls Try.prog 16 #[.agg c.cells] w fun e w' => e = .returned (.int .i64 d) ∧ Below w.heap.size w w' := by
  rw [← h]
  exact need_any c w
set_option maxRecDepth 100000 in
set_option maxHeartbeats 4000000 in
theorem lay_any (a : Option Addr) (n cap : Nat) (cs : List Cf) (B : Nat) (w : World) (hr : Cfs w B a n cs) (hB : B ≤ w.heap.size) (hn : n ≤ 8) :
    Calls Try.prog 21 #[.slice a n cap] w fun e w' => (∃ v, e = .returned (.tuple #[v, .int .i64 (sumN cs)]) ∧ OwnP w' w.heap.size v n (layL cs 0)) ∧ Below w.heap.size w w' := by
  have HR := Lib.hid hr
  have HL := Lib.hid hr.2
  have hz := zero38_run
  clear hr
  obtain ⟨w0, hmk, ho, hg⟩ := make_caps w n hn
  have HB0 : Hid (Below w.heap.size w w0) := Lib.hid ((Below.refl _ w).grown hg (Nat.le_refl _) (fun k hk => by cases hk))
  have HO0 := Lib.hid ho
  clear ho hg
  go_enter Try.func21, Try.ntmps21
  go_wp2
  go_loopw [2, 3, 11] (fun v s i wr => ∃ k : Nat, Below w.heap.size w wr ∧ i = .int .i64 (k : Int) ∧ k ≤ n ∧ s = .int .i64 (sumN (cs.take k)) ∧ OwnP wr w.heap.size v k (layL (cs.take k) 0)) (fun _ _ i _ => n - (intOf i).toNat)
  case atStart => exact ⟨0, HB0.out, rfl, Nat.zero_le _, rfl, HO0.out⟩
  case round =>
    obtain ⟨k, hb, rfl, hk, rfl, ho⟩ := hrel
    by_cases h : k < n
    · obtain ⟨b, off, rfl, hbB, hrun⟩ := (HR.out.1.kept (hb.mono hB)).open (by omega)
      obtain ⟨c, hc⟩ : ∃ c, cs[k]? = some c := ⟨_, List.getElem?_eq_getElem (show k < cs.length by have := HL.out; omega)⟩
      have HC := Lib.hid hc
      have cl := (cfs_see hrun hc).ld
      have HB := Lib.hid hb
      have HO := Lib.hid ho
      have HN := Lib.hid (sumN_in (cs.take k))
      have HT := Lib.hid (sum_take hc)
      have hlen : (cs.take k).length ≤ 8 := by rw [List.length_take]; omega
      obtain ⟨s, hs⟩ : ∃ s, sumN (cs.take k) = s := ⟨_, rfl⟩
      obtain ⟨d, hd, hd0⟩ : ∃ d, needN c = d ∧ 4 ≤ d ∧ d ≤ 16 := ⟨_, rfl, need_in c⟩
      have hs0 : 0 ≤ s ∧ s ≤ 128 := by have := HN.out; omega
      have HD := Lib.hid hd
      have HS := Lib.hid hs
      obtain ⟨hs1, hs2⟩ := hs0
      obtain ⟨hd1, hd2⟩ := hd0
      rw [hs]
      clear hrun hc hbB hb ho hlen hd hs
      go_wp2_with (first
        | (refine wpList_ld 38 _ rfl _ _ cl rfl rfl ?_; clear cl)
        | (refine wpList_row rfl _ _ rfl wr.heap.size c rfl rfl zeroC (has_new wr 38 zeroC) rfl wr.heap.size (Nat.le_refl _) ?_; intro w1 hs1 b1 sz1; have B1 := Lib.hid ((HB.out.alloc HB.out.size (.cells zeroC 38)).trans (b1.mono HB.out.size)); have H1 := Lib.hid hs1; have O1 := Lib.hid (own_kept HO.out (((Below.refl wr.heap.size wr).alloc (Nat.le_refl _) (.cells zeroC 38)).trans b1)); clear hs1 b1 sz1))
      have HS0 : Hid (Has w1.drew wr.heap.size 38 c.cells) := Lib.hid H1.out
      have HNE := Lib.hid (fun W => need_is HD.out W)
      refine wp_region_held_drew (S := fun W => Has W wr.heap.size 38 c.cells) (by kernel_rfl) HS0.out ?_
      intro _
      refine wpAnyH_take (i := 0) (v := u2) rfl (by kernel_rfl) (by kernel_rfl) (by kernel_rfl) (fun _ _ _ h => h) (Or.inl ⟨by rfl, (fun W _ => by go_simp)⟩) HS0.out ?_
      simp only [List.getElem_toArray, List.getElem_cons_succ, List.getElem_cons_zero, Act.put, List.setIfInBounds_toArray, List.set_cons_zero, List.set_cons_succ]
      refine wpAnyH_take (i := 1) (v := .pointer (some ⟨wr.heap.size, 5, none⟩)) rfl (by kernel_rfl) (by kernel_rfl) (by kernel_rfl) (fun _ _ _ h => h) (Or.inl ⟨by rfl, (fun W _ => by go_simp)⟩) HS0.out ?_
      simp only [List.getElem_toArray, List.getElem_cons_succ, List.getElem_cons_zero, Act.put, List.setIfInBounds_toArray, List.set_cons_zero, List.set_cons_succ]
      refine wpAnyH_take (i := 2) (v := .int .i64 c.rights) rfl (by kernel_rfl) (by kernel_rfl) (by kernel_rfl) (fun _ _ _ h => h) (Or.inl ⟨by rfl, (fun W hW => by have q9 := (see_b hW).c5; go_simp)⟩) HS0.out ?_
      simp only [List.getElem_toArray, List.getElem_cons_succ, List.getElem_cons_zero, Act.put, List.setIfInBounds_toArray, List.set_cons_zero, List.set_cons_succ]
      refine wpAnyH_take (i := 3) (v := .int .i64 s) rfl (by kernel_rfl) (by kernel_rfl) (by kernel_rfl) (fun _ _ _ h => h) (Or.inl ⟨by rfl, (fun W _ => by go_simp)⟩) HS0.out ?_
      simp only [List.getElem_toArray, List.getElem_cons_succ, List.getElem_cons_zero, Act.put, List.setIfInBounds_toArray, List.set_cons_zero, List.set_cons_succ]
      refine wpAnyH_take (i := 4) (v := .agg c.cells) rfl (by kernel_rfl) (by kernel_rfl) (by kernel_rfl) (fun _ _ _ h => h) (yields_ld (by rfl) 38 (.tmp 5) rfl _ _ (fun W hW => (see_b hW).ld) rfl) HS0.out ?_
      simp only [List.getElem_toArray, List.getElem_cons_succ, List.getElem_cons_zero, Act.put, List.setIfInBounds_toArray, List.set_cons_zero, List.set_cons_succ]
      refine wpAnyH_ready (rs := [5]) (by kernel_rfl) (by simp) ?_
      refine AllReadyH.cons rfl (fun K hK => ?_) AllReadyH.nil
      go_simp
      refine (HNE.out _).mono ?_
      rintro e w5 ⟨rfl, b5⟩
      have T5 := Lib.hid (((Below.refl w1.heap.size w1).drew).trans b5)
      have H5 := Lib.hid (H1.out.kept T5.out)
      clear b5
      refine hK.out _ _ H5.out (fun _ => ?_)
      clear hK K
      refine wpAnyH_take (i := 6) (v := .agg (Cp.cells ⟨c.rights, s, d⟩)) rfl (by kernel_rfl) (by kernel_rfl) (by kernel_rfl) (fun _ _ _ h => h) (Or.inl ⟨by rfl, (fun W _ => by go_simp; rfl)⟩) H5.out ?_
      simp only [List.getElem_toArray, List.getElem_cons_succ, List.getElem_cons_zero, Act.put, List.setIfInBounds_toArray, List.set_cons_zero, List.set_cons_succ]
      refine wpAnyH_ready (rs := [7]) (by kernel_rfl) (by simp) ?_
      refine AllReadyH.cons rfl (fun K hK => ?_) AllReadyH.nil
      go_simp
      have T7 := Lib.hid (T5.out.alloc T5.out.size (.cells (Cp.cells ⟨c.rights, s, d⟩) 24))
      have H7 := Lib.hid (H1.out.kept T7.out)
      refine hK.out _ _ H7.out (fun _ => ?_)
      clear hK K
      refine wpAnyH_ready (rs := [8]) (by kernel_rfl) (by simp) ?_
      refine AllReadyH.cons rfl (fun K hK => ?_) AllReadyH.nil
      have O7 := own_kept O1.out T7.out
      obtain ⟨v8, w8, hrun, o8, g8⟩ := runs_appP _ w.heap.size 27 u2 k _ O7 w5.heap.size ⟨c.rights, s, d⟩ (has_new w5 24 _) (by omega) (Nat.le_trans B1.out.size T7.out.size)
      have B8 := Lib.hid (own_below (B1.out.trans (T7.out.mono B1.out.size)) O7 g8 (Nat.le_refl _) (Nat.le_trans B1.out.size T7.out.size))
      have O8 := Lib.hid o8
      have H8 : Hid (Has w8 wr.heap.size 38 c.cells) := Lib.hid ((g8.block wr.heap.size H7.out.size (fun e => by have := (HO.out.lt _ e.symm).2; omega)).trans H7.out)
      refine step_run (by rfl) 27 _ _ rfl u2 _ v8 rfl rfl hrun ?_
      refine hK.out _ _ H8.out (fun _ => ?_)
      clear hK K hrun g8 o8 O7
      simp only [List.getElem_toArray, List.getElem_cons_succ, List.getElem_cons_zero, Act.put, List.setIfInBounds_toArray, List.set_cons_zero, List.set_cons_succ]
      refine wpAnyH_take (i := 9) (v := v8) rfl (by kernel_rfl) (by kernel_rfl) (by kernel_rfl) (fun _ _ _ h => h) (Or.inl ⟨by rfl, (fun W _ => by go_simp)⟩) H8.out ?_
      simp only [List.getElem_toArray, List.getElem_cons_succ, List.getElem_cons_zero, Act.put, List.setIfInBounds_toArray, List.set_cons_zero, List.set_cons_succ]
      refine wpAnyH_done (by kernel_rfl) ?_ _
      have l8 := (see_b H8.out).ld
      have sc : List.take (k + 1) cs = List.take k cs ++ [c] := by rw [List.take_add_one, HC.out]; rfl
      have R8 : Hid (OwnP w8 w.heap.size v8 (k + 1) (layL (cs.take (k + 1)) 0)) := Lib.hid (by rw [sc, layL_snoc, HS.out, HD.out, Int.zero_add]; exact O8.out)
      have ES : Hid (sumN (cs.take (k + 1)) = s + d) := Lib.hid (by rw [sc, sumN_snoc, HS.out, HD.out])
      clear O8 O1 H1 T5 H5 T7 H7 H8 B1 sc
      go_wp2_with (first
        | (refine wpList_ld 38 _ rfl _ _ l8 rfl rfl ?_; clear l8)
        | (go_at_call 16; (with_reducible refine (HNE.out _).mono ?_); rintro e w9 ⟨rfl, b9⟩; have R9 := Lib.hid (own_kept R8.out b9); have B9 := Lib.hid (belowThen B8.out b9 B8.out.size); clear b9))
      go_roundw
      case rel => exact ⟨k + 1, B9.out, by go_num, by omega, by rw [ES.out], R9.out⟩
      case measure => simp [intOf]; omega
    · have e : k = cs.length := by have := HL.out; omega
      rw [List.take_of_length_le (by omega)] at ho ⊢
      have HE := Lib.hid (show OwnP wr w.heap.size u2 n (layL cs 0) from by have := HL.out; rwa [show n = k by omega])
      clear ho e
      go_wp2
      go_ret2
      exact ⟨⟨_, rfl, HE.out⟩, hb⟩
end Go.Proofs.Ytljkngalnoepmaa
