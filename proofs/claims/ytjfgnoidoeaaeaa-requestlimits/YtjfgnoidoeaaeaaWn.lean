/-
  What a writer is told to write, numbers and rows, and all its bytes; the program's; conditions: the writer is there, its bytes are not many.
-/
import Derived.Test.YtjfgnoidoeaaeaaWr
namespace Go.Proofs.Ytjfgnoidoeaaeaa
open Go.RowKit
set_option linter.unusedVariables false
set_option linter.unusedSimpArgs false

theorem plus_plus {P : Nat → Prop} {w w1 w2 : World} (h1 : w.heap.size ≤ w1.heap.size) (h2 : w1.heap.size ≤ w2.heap.size) : ∀ b, Plus (Plus P w w1) w1 w2 b → Plus P w w2 b := by
  rintro b ((h | h) | h)
  · exact .inl h
  · exact .inr (by omega)
  · exact .inr (by omega)
/-- A writer's call behind memory that was laid for it. -/
theorem WrTo.after {p : Nat} {P : Nat → Prop} {zs : List Int} {w w1 w2 : World} (hb : Below w.heap.size w w1) (hp : p < w.heap.size) (hP : ¬ P p) (h : WrTo p (Plus P w w1) zs w1 w2) : WrTo p P zs w w2 :=
  ⟨h.1.mono (plus_plus hb.size h.2.size) (plus_self hp hP _), (Only.of_below hb).trans h.2⟩
/-- So many bytes are laid, from the last on. -/
def Laying (w : World) (n : Int) (k : Nat) (v i : Value) (wr : World) : Prop := ∃ t : Nat, t ≤ k ∧ v = .int .i64 (n / 256 ^ t) ∧ i = .int .i64 ((k : Int) - (t : Int) - 1) ∧ Has wr w.heap.size 5 (nums (laid n k t)).toArray ∧ Below w.heap.size w wr
set_option maxRecDepth 100000 in
theorem wnum_any {p : Nat} {P : Nat → Prop} {zs : List Int} (n s : Int) (w : World) (hn : -9223372036854775808 ≤ n ∧ n ≤ 9223372036854775807) (hw : Wr w p P zs) (hle : zs.length ≤ 900000) :
    Calls Try.prog 18 #[.pointer (some ⟨p, 0, none⟩), .int .i64 n, .int .i64 s] w (Done (WrTo p P (zs ++ numL n (cutN s 8)) w)) := by
  have HC := Lib.hid (cut8 s w)
  have hk := cut_le s 8
  generalize cutN s 8 = k at *
  have hmk := make_bytes .i64 .i64 k k (Nat.le_refl _) (by omega) w
  have hnew := has_new w 5 (zeroBytes k)
  rw [show zeroBytes k = (nums (laid n k 0)).toArray by rw [laid_none]; rfl] at hmk hnew
  have HN := Lib.hid hnew
  have HA := Lib.hid (fun (w1 : World) (hG : Has w1 w.heap.size 5 (nums (numL n k)).toArray) (hb : Below w.heap.size w w1) => show Calls Try.prog 32 #[.pointer (some ⟨p, 0, none⟩), .slice (some ⟨w.heap.size, 0, none⟩) k k] w1 (Done (WrTo p P (zs ++ numL n k) w)) by
    have hr := has_row hG (num_byt n k)
    rw [num_len] at hr
    refine (add_any (P := Plus P w w1) (some ⟨w.heap.size, 0, none⟩) k k (numL n k) w1 ((hw.kept hb).mono (fun b h => .inl h) (plus_self hw.at hw.2.2.1 _)) hr (Nat.le_refl _) (fun x hx => by cases hx; exact .inr ⟨Nat.le_refl _, hG.size⟩) (by omega)).mono ?_
    rintro e w2 ⟨h1, h2⟩
    exact ⟨h1, h2.after hb hw.at hw.2.2.1⟩)
  clear hw hnew
  go_enter Try.func18, Try.ntmps18
  go_wp2_with (go_at_call 31; (with_reducible refine HC.out.mono ?_); rintro e w1 ⟨rfl, rfl⟩)
  clear HC hmk
  go_loopw [1, 7] (fun v i wr => Laying w n k v i wr) (fun _ i _ => ((intOf i) + 1).toNat)
  case atStart => exact ⟨0, by omega, by simp, by simp, HN.out, (Below.refl _ w).alloc (Nat.le_refl _) _⟩
  case round =>
    obtain ⟨t, ht, rfl, rfl, hG, hb⟩ := hrel
    by_cases hlt : t < k
    · obtain ⟨d, hd⟩ : ∃ d, k - t - 1 = d := ⟨_, rfl⟩
      have hdi : (k : Int) - (t : Int) - 1 = (d : Int) := by omega
      rw [hdi]
      have hc := has_at hG (j := d) (by rw [laid_len n ht]; omega)
      have hf := hG.soft d
      have hset := has_set hG d (n / 256 ^ t % 256)
      rw [← hd, laid_more n hlt, hd] at hset
      have HS := Lib.hid hset
      have HB := Lib.hid (show Below w.heap.size w (wr.setCell ⟨w.heap.size, d, none⟩ (.int .u8 (n / 256 ^ t % 256))) from hb.setCell (Nat.le_refl _) _)
      have HV := Lib.hid (shift_byte n t)
      clear hset hb
      generalize (laid n k t).getD d 0 = x0 at *
      generalize n / 256 ^ t = y at *
      have i0 : (0 : Int) ≤ (d : Int) := by omega
      have i1 : (d : Int) < (k : Int) := by omega
      go_wp2
      go_roundw
      case rel => exact ⟨t + 1, by omega, by rw [HV.out], by rw [show (d : Int) - 1 = (k : Int) - ((t + 1 : Nat) : Int) - 1 by omega], HS.out, HB.out⟩
      case measure => simp [intOf]
    · obtain rfl : t = k := by omega
      rw [laid_all] at hG
      have HD := Lib.hid (HA.out wr hG hb)
      have hi : ¬ (0 : Int) ≤ (t : Int) - (t : Int) - 1 := by omega
      generalize (t : Int) - (t : Int) - 1 = i at *
      clear HA hG hb HN
      go_wp2_with (go_at_call 32; (with_reducible refine HD.out.mono ?_); rintro e w2 ⟨rfl, h2⟩)
      go_end0
      exact ⟨rfl, h2⟩
theorem raw_made (ys : List Int) (n k : Nat) (h : ys.length = n) : (zeroBytes k).toList.take 0 ++ (nums (ys.take (Nat.min n k)) ++ (zeroBytes k).toList.drop (0 + Nat.min n k)) = nums (rawL ys k) := by
  subst h
  unfold rawL zeroBytes
  rw [List.take_zero, List.nil_append, Nat.zero_add]
  have e1 : ys.take (Nat.min ys.length k) = ys.take k := by
    by_cases hk : k ≤ ys.length
    · rw [show Nat.min ys.length k = k from Nat.min_eq_right hk]
    · rw [show Nat.min ys.length k = ys.length from Nat.min_eq_left (by omega), List.take_of_length_le (Nat.le_refl _), List.take_of_length_le (by omega)]
  have e2 : k - Nat.min ys.length k = k - ys.length := by
    by_cases hk : k ≤ ys.length
    · rw [show Nat.min ys.length k = k from Nat.min_eq_right hk]; omega
    · rw [show Nat.min ys.length k = ys.length from Nat.min_eq_left (by omega)]
  rw [e1]
  simp only [nums, List.map_append, List.map_replicate, List.drop_replicate]
  rw [e2]
set_option maxRecDepth 100000 in
theorem wraw_any {p : Nat} {P : Nat → Prop} {zs : List Int} (A : Option Addr) (n c : Nat) (ys : List Int) (s : Int) (w : World) (hr : Row w A n ys) (hw : Wr w p P zs) (hle : zs.length ≤ 900000) :
    Calls Try.prog 19 #[.pointer (some ⟨p, 0, none⟩), .slice A n c, .int .i64 s] w (Done (WrTo p P (zs ++ rawL ys (cutN s 1000)) w)) := by
  have HC := Lib.hid (cut1000 s w)
  have hk := cut_le s 1000
  generalize cutN s 1000 = k at *
  have hmk := make_bytes .i64 .i64 k k (Nat.le_refl _) (by omega) w
  have hb0 : Below w.heap.size w (w.alloc (.cells (zeroBytes k) 5)) := (Below.refl _ w).alloc (Nat.le_refl _) _
  have hnew := has_new w 5 (zeroBytes k)
  have hr1 := row_below hb0 hr
  have hzs : (zeroBytes k).size = k := by simp [zeroBytes, nums]
  have hfit : 0 + Nat.min n k ≤ (zeroBytes k).size := by rw [hzs]; have : Nat.min n k ≤ k := Nat.min_le_right _ _; omega
  have hG : Has ((w.alloc (.cells (zeroBytes k) 5)).setRow w.heap.size ((zeroBytes k).toList.take 0 ++ (nums (ys.take (Nat.min n k)) ++ (zeroBytes k).toList.drop (0 + Nat.min n k))).toArray) w.heap.size 5 (nums (rawL ys k)).toArray := by
    have := setRow_heap (w.alloc (.cells (zeroBytes k) 5)) w.heap.size (zeroBytes k) ((zeroBytes k).toList.take 0 ++ (nums (ys.take (Nat.min n k)) ++ (zeroBytes k).toList.drop (0 + Nat.min n k))).toArray 5 (0, 0) hnew
    rw [raw_made ys n k hr.1] at this ⊢
    exact this
  have hb1 : Below w.heap.size w ((w.alloc (.cells (zeroBytes k) 5)).setRow w.heap.size ((zeroBytes k).toList.take 0 ++ (nums (ys.take (Nat.min n k)) ++ (zeroBytes k).toList.drop (0 + Nat.min n k))).toArray) := below_setRow hb0 (Nat.le_refl _) _
  generalize hW : (w.alloc (.cells (zeroBytes k) 5)).setRow w.heap.size ((zeroBytes k).toList.take 0 ++ (nums (ys.take (Nat.min n k)) ++ (zeroBytes k).toList.drop (0 + Nat.min n k))).toArray = W at *
  have HA := Lib.hid (show Calls Try.prog 32 #[.pointer (some ⟨p, 0, none⟩), .slice (some ⟨w.heap.size, 0, none⟩) k k] W (Done (WrTo p P (zs ++ rawL ys k) w)) by
    have hrr := has_row hG (raw_byt hr.2.1 k)
    rw [raw_len] at hrr
    refine (add_any (P := Plus P w W) (some ⟨w.heap.size, 0, none⟩) k k (rawL ys k) W ((hw.kept hb1).mono (fun b h => .inl h) (plus_self hw.at hw.2.2.1 _)) hrr (Nat.le_refl _) (fun x hx => by cases hx; exact .inr ⟨Nat.le_refl _, hG.size⟩) (by omega)).mono ?_
    rintro e w2 ⟨h1, h2⟩
    exact ⟨h1, h2.after hb1 hw.at hw.2.2.1⟩)
  clear hw hG hb1 hr
  have hcp := runs_cp (w.alloc (.cells (zeroBytes k) 5)) 3 (Nat.min n k) w.heap.size 0 k k A n c ys hr1 rfl (zeroBytes k) 5 hnew hfit
  rw [hW] at hcp
  clear hW hr1 hfit
  go_enter Try.func19, Try.ntmps19
  go_wp2_with (first
    | (go_at_call 31; (with_reducible refine HC.out.mono ?_); rintro e w1 ⟨rfl, rfl⟩)
    | (go_at_call 32; (with_reducible refine HA.out.mono ?_); rintro e w2 ⟨rfl, h2⟩))
  go_end0
  exact ⟨rfl, h2⟩
end Go.Proofs.Ytjfgnoidoeaaeaa
