/-
  All bytes of a writer; the program's; conditions: the writer is there.
-/
import Derived.Test.YtjfgnoidoeaaeaaWn
namespace Go.Proofs.Ytjfgnoidoeaaeaa
open Go.RowKit
set_option linter.unusedVariables false
set_option linter.unusedSimpArgs false

/-- A row while it is filled from its end on. -/
def gath (zs : List Int) (e : Nat) : List Int := List.replicate e 0 ++ zs.drop e
theorem gath_none (zs : List Int) : gath zs zs.length = List.replicate zs.length 0 := by simp [gath]
theorem gath_all (zs : List Int) : gath zs 0 = zs := by simp [gath]
theorem gath_len (zs : List Int) {e : Nat} (h : e ≤ zs.length) : (gath zs e).length = zs.length := by simp [gath]; omega
theorem joined_split {ys : List Int} {L : List (List Int)} {zs : List Int} {e : Nat} (he : e ≤ zs.length) (h : joined (ys :: L) = zs.take e) : joined L = zs.take (e - ys.length) ∧ ys ++ zs.drop e = zs.drop (e - ys.length) ∧ ys.length ≤ e := by
  rw [joined] at h
  have hl := congrArg List.length h
  rw [List.length_append, List.length_take] at hl
  have h1 : ys.length ≤ e := by omega
  have e0 : zs = joined L ++ ys ++ zs.drop e := by rw [h, List.take_append_drop]
  have e1 : (joined L).length = e - ys.length := by omega
  refine ⟨?_, ?_, h1⟩
  · rw [e0, List.append_assoc, ← e1, List.take_left]
  · rw [← e1]
    conv => rhs; rw [e0, List.append_assoc, List.drop_left]
theorem gath_more {ys : List Int} {L : List (List Int)} {zs : List Int} {e : Nat} (he : e ≤ zs.length) (h : joined (ys :: L) = zs.take e) :
    (nums (gath zs e)).take (e - ys.length) ++ (nums (ys.take ys.length) ++ (nums (gath zs e)).drop (e - ys.length + ys.length)) = nums (gath zs (e - ys.length)) := by
  obtain ⟨_, h2, h3⟩ := joined_split he h
  rw [List.take_of_length_le (Nat.le_refl _), Nat.sub_add_cancel h3]
  unfold gath
  rw [← h2]
  simp only [nums, List.map_append, List.map_replicate]
  rw [List.take_append_of_le_length (by simp), List.take_replicate, Nat.min_eq_left (Nat.sub_le ..), List.drop_append_of_le_length (by simp), List.drop_replicate, Nat.sub_self, List.replicate_zero, List.nil_append]
def Gathering (w : World) (P : Nat → Prop) (zs : List Int) (v i : Value) (wr : World) : Prop :=
  ∃ (e : Nat) (q : Option Addr) (L : List (List Int)), e ≤ zs.length ∧ v = .int .i64 (e : Int) ∧ i = .pointer q ∧ Chain wr P q L ∧ joined L = zs.take e ∧ Has wr w.heap.size 5 (nums (gath zs e)).toArray ∧ Below w.heap.size w wr
set_option maxRecDepth 100000 in
theorem bytes_any {p : Nat} {P : Nat → Prop} {zs : List Int} (w : World) (hw : Wr w p P zs) (hP : ∀ b, P b → b < w.heap.size) : Calls Try.prog 20 #[.pointer (some ⟨p, 0, none⟩)] w (Gives zs.length zs w) := by
  obtain ⟨h1, h2, h3, q, L, h4, h5, h6⟩ := hw
  obtain ⟨n, hn⟩ : ∃ n, zs.length = n := ⟨_, rfl⟩
  rw [hn] at h4 h2 ⊢
  have hb0 : Below w.heap.size w (w.alloc (.cells (zeroBytes n) 5)) := (Below.refl _ w).alloc (Nat.le_refl _) _
  have q0 : (w.alloc (.cells (zeroBytes n) 5)).cell? ⟨p, 0, none⟩ = some (.pointer q) := (h4.kept hb0).at 0
  have q1 : (w.alloc (.cells (zeroBytes n) 5)).cell? ⟨p, 1, none⟩ = some (.int .i64 (n : Int)) := (h4.kept hb0).at 1
  have r1 : w.cell? ⟨p, 1, none⟩ = some (.int .i64 (n : Int)) := h4.at 1
  have hmk := make_bytes .i64 .i64 n n (Nat.le_refl _) (by omega) w
  have hap : p ≠ w.heap.size := by have := h4.size; omega
  have HS := Lib.hid (show Gathering w P zs (.int .i64 (n : Int)) (.pointer q) (w.alloc (.cells (zeroBytes n) 5)) by
    refine ⟨n, q, L, by omega, rfl, rfl, h5.only (X := fun _ => False) (Only.of_below hb0) (fun b hb => hb.elim), by rw [h6, List.take_of_length_le (by omega)], ?_, hb0⟩
    rw [← hn, gath_none]
    exact has_new _ _ _)
  clear h4 h5 h6 hb0
  go_enter Try.func20, Try.ntmps20
  go_wp2
  go_loopw [4, 5] (fun v i wr => Gathering w P zs v i wr) (fun v _ _ => (intOf v).toNat)
  case atStart => exact HS.out
  case round =>
    clear HS hmk q0 q1 r1
    obtain ⟨e, q, L, he, rfl, rfl, hc, hj, hG, hb⟩ := hrel
    cases L with
    | nil =>
      obtain rfl : q = none := hc
      have e0 : e = 0 := by
        have := congrArg List.length hj
        rw [List.length_take] at this
        simp only [joined, List.length_nil] at this
        omega
      subst e0
      rw [gath_all] at hG
      have HE := Lib.hid (show Gives n zs w (.returned (.slice (some ⟨w.heap.size, 0, none⟩) n n)) wr from ⟨_, rfl, ⟨⟨by rw [nums_len]; omega, .inr ⟨w.heap.size, n, _, rfl, Nat.le_refl _, hG, Nat.le_refl _, by unfold maxLen; omega, by simp [nums_len, hn], by simp [nums_len, hn, List.take_of_length_le]⟩⟩, h1⟩, hb⟩)
      clear hG hb hj
      go_wp2
      go_ret
      exact HE.out
    | cons ys L =>
      obtain ⟨g, q', A, c, rfl, k1, k2, k3, k4, k5, k6, k7⟩ := hc
      have c0 : wr.cell? ⟨g, 0, none⟩ = some (.pointer q') := k2.at 0
      have c1 : wr.cell? ⟨g, 1, none⟩ = some (.slice A ys.length c) := k2.at 1
      obtain ⟨j1, j2, j3⟩ := joined_split he hj
      have j4 := gath_more he hj
      obtain ⟨m, hm⟩ : ∃ m, ys.length = m := ⟨_, rfl⟩
      rw [hm] at c1 j3 k3 k4 k5
      obtain ⟨d, hd⟩ : ∃ d, e - m = d := ⟨_, rfl⟩
      have hsub : (e : Int) - (m : Int) = (d : Int) := by omega
      have R2 := run_from wr (some ⟨w.heap.size, 0, none⟩) n n .i64 d (by omega) (Nat.le_refl _)
      rw [show sliced (some ⟨w.heap.size, 0, none⟩) d n n 1 = .slice (some ⟨w.heap.size, d, none⟩) (n - d) (n - d) by simp only [sliced]; rw [if_neg (by omega), Option.map_some, addr_add]; simp] at R2
      have hgl : (gath zs e).length = n := by rw [gath_len zs he, hn]
      have hcp := runs_cp wr 3 m w.heap.size d (n - d) (n - d) A m c ys k3 (Nat.min_eq_left (by omega)) (nums (gath zs e)).toArray 5 hG (by simp [nums_len, hgl]; omega)
      have hbd : Below wr.heap.size wr wr.drew := (Below.refl _ wr).drew
      have hcp2 := runs_cp wr.drew 3 m w.heap.size d (n - d) (n - d) A m c ys (row_below hbd k3) (Nat.min_eq_left (by omega)) (nums (gath zs e)).toArray 5 (hG.kept hbd) (by simp [nums_len, hgl]; omega)
      have R3 := run_from wr.drew (some ⟨w.heap.size, 0, none⟩) n n .i64 d (by omega) (Nat.le_refl _)
      rw [show sliced (some ⟨w.heap.size, 0, none⟩) d n n 1 = .slice (some ⟨w.heap.size, d, none⟩) (n - d) (n - d) by simp only [sliced]; rw [if_neg (by omega), Option.map_some, addr_add]; simp] at R3
      have hG2 := setRow_heap wr.drew w.heap.size (nums (gath zs e)).toArray ((nums (gath zs e)).toArray.toList.take d ++ (nums (ys.take m) ++ (nums (gath zs e)).toArray.toList.drop (d + m))).toArray 5 (0, 0) (hG.kept hbd)
      have o2 : Only (fun b => b = w.heap.size) wr (wr.drew.setRow w.heap.size ((nums (gath zs e)).toArray.toList.take d ++ (nums (ys.take m) ++ (nums (gath zs e)).toArray.toList.drop (d + m))).toArray) := ((Only.refl (fun b => b = w.heap.size) wr).drew).setRow rfl _
      have b2 : Below w.heap.size w (wr.drew.setRow w.heap.size ((nums (gath zs e)).toArray.toList.take d ++ (nums (ys.take m) ++ (nums (gath zs e)).toArray.toList.drop (d + m))).toArray) := below_setRow hb.drew (Nat.le_refl _) _
      generalize hW : wr.drew.setRow w.heap.size ((nums (gath zs e)).toArray.toList.take d ++ (nums (ys.take m) ++ (nums (gath zs e)).toArray.toList.drop (d + m))).toArray = W at *
      rw [List.toList_toArray, ← hd, ← hm, j4, hm, hd] at hG2
      have hne : ∀ b, b = w.heap.size → ¬ P b := fun b hb hPb => by have := hP b hPb; omega
      have c0' : W.cell? ⟨g, 0, none⟩ = some (.pointer q') := (k2.only o2 (fun x => hne _ x k1)).at 0
      have HE := Lib.hid (show Gathering w P zs (.int .i64 (d : Int)) (.pointer q') W from ⟨d, q', L, by omega, rfl, rfl, k7.only o2 hne, by rw [j1, hm, hd], hG2, b2⟩)
      clear hW hG2 o2 b2 hne j1 j2 j4 k2 k3 k6 k7 hG hj hcp
      go_wp2
      go_region
      all_goals
        go_wp2
        go_roundw
        case rel => exact HE.out
        case measure => simp [intOf]; omega
end Go.Proofs.Ytjfgnoidoeaaeaa
