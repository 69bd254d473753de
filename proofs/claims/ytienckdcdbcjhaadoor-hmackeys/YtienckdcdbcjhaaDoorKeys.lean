/-
  The walk of the law HmacKeys: a key of up to a block is as with bytes 0 behind it; conditions: the tables lie as they were laid.
-/
import Derived.Test.YtienckdcdbcjhaaDoorLive
import Derived.Test.YtienckdcdbcjhaaDoorCards
namespace Go.Proofs.YtienckdcdbcjhaaDoor.hmacKeys
open Go.ChangeShapes Go.WideShapes Go.ChangeAt Go.RowKit
set_option linter.unusedVariables false

theorem zeros_next (ks : List Int) (j : Nat) : ks ++ List.replicate j 0 ++ [0] = ks ++ List.replicate (j + 1) (0 : Int) := by rw [List.append_assoc, ← List.replicate_succ']
set_option maxRecDepth 100000 in
set_option maxHeartbeats 1000000 in
theorem walk_out (a0 : Option Addr) (len0 cap0 : Nat) (a1 : Option Addr) (len1 cap1 : Nat) (n : Int) (w : World) (ht : Tabs w) (h : 64 < len0 ∨ 500 < len1 ∨ n < 0 ∨ 64 < n) :
    Calls Tryd.prog 5 #[.slice a0 len0 cap0, .slice a1 len1 cap1, .int .i64 n] w fun e w' => e = .returned (.bool true) ∧ Below w.heap.size w w' := by
  by_cases h1 : 64 < len0
  · have i0 : (64 : Int) < (len0 : Int) := by omega
    go_enter Tryd.func5, Tryd.ntmps5
    go_wp2_with (go_at_call 7; refine (live_any _ ht).mono ?_; rintro e w1 ⟨rfl, H1⟩)
    go_ret
    exact ⟨rfl, H1⟩
  · have i0 : ¬ (64 : Int) < (len0 : Int) := by omega
    by_cases h2 : 500 < len1
    · have i1 : (500 : Int) < (len1 : Int) := by omega
      go_enter Tryd.func5, Tryd.ntmps5
      go_wp2_with (go_at_call 7; refine (live_any _ ht).mono ?_; rintro e w1 ⟨rfl, H1⟩)
      go_ret
      exact ⟨rfl, H1⟩
    · have i1 : ¬ (500 : Int) < (len1 : Int) := by omega
      by_cases h3 : n < 0
      · go_enter Tryd.func5, Tryd.ntmps5
        go_wp2_with (go_at_call 7; refine (live_any _ ht).mono ?_; rintro e w1 ⟨rfl, H1⟩)
        go_ret
        exact ⟨rfl, H1⟩
      · have h4 : 64 < n := by omega
        go_enter Tryd.func5, Tryd.ntmps5
        go_wp2_with (go_at_call 7; refine (live_any _ ht).mono ?_; rintro e w1 ⟨rfl, H1⟩)
        go_ret
        exact ⟨rfl, H1⟩
set_option maxRecDepth 100000 in
set_option maxHeartbeats 1000000 in
theorem walk_within (a0 : Option Addr) (len0 cap0 : Nat) (ks : List Int) (a1 : Option Addr) (len1 cap1 : Nat) (bs : List Int) (n : Nat) (w : World) (hk : Row w a0 len0 ks) (hr : Row w a1 len1 bs) (hc0 : len0 ≤ cap0) (hc1 : len1 ≤ cap1) (ht : Tabs w)
    (h0 : len0 ≤ 64) (h1 : len1 ≤ 500) (hn : n ≤ 64) :
    Calls Tryd.prog 5 #[.slice a0 len0 cap0, .slice a1 len1 cap1, .int .i64 (n : Int)] w fun e w' => e = .returned (.bool true) ∧ Below w.heap.size w w' := by
  have i0 : ¬ (64 : Int) < (len0 : Int) := by omega
  have i1 : ¬ (500 : Int) < (len1 : Int) := by omega
  have i2 : ¬ (n : Int) < 0 := by omega
  have i3 : ¬ (64 : Int) < (n : Int) := by omega
  go_enter Tryd.func5, Tryd.ntmps5
  go_wp2_with (first
    | (go_at_call 7; refine (live_any _ ht).mono ?_; rintro e w1 ⟨rfl, H1⟩; have hk1 := row_below H1 hk; have n1 := own_nil w1 w1.heap.size)
    | (at_builtin; refine wpList_app rfl _ _ rfl w1.heap.size _ _ _ rfl n1 _ _ _ _ rfl hk1 (row_none hk1) (by omega) (Nat.le_refl _) ?_; intro v2 w2 o2 g2; have b2 := below_own H1 n1 g2 H1.size H1.size))
  have hp0 : ∃ j : Nat, j ≤ n ∧ (Value.int .i64 0) = .int .i64 j ∧ len0 + j ≤ 64 ∧ Own w2 w1.heap.size v2 (len0 + j) (ks ++ List.replicate j 0) ∧ Below w.heap.size w w2 ∧ w1.heap.size ≤ w2.heap.size := by
    refine ⟨0, by omega, rfl, by omega, ?_, b2, g2.size⟩
    rw [Nat.zero_add, List.nil_append] at o2
    rw [List.replicate_zero, List.append_nil]
    exact o2
  have hs1 : w.heap.size ≤ w1.heap.size := H1.size
  clear o2 g2 n1 hk1 b2
  go_loopw [8, 9] (fun v i wr => ∃ j : Nat, j ≤ n ∧ i = .int .i64 j ∧ len0 + j ≤ 64 ∧ Own wr w1.heap.size v (len0 + j) (ks ++ List.replicate j 0) ∧ Below w.heap.size w wr ∧ w1.heap.size ≤ wr.heap.size) (fun _ i _ => 64 - (intOf i).toNat)
  case atStart => exact hp0
  case round =>
    clear hp0
    obtain ⟨j, hj, rfl, hlj, ho, hb, hsz⟩ := hrel
    obtain ⟨A, c, rfl, hc, hq, _⟩ := ho.form
    by_cases hgo : j < n ∧ len0 + j < 64
    · obtain ⟨g1, g2⟩ := hgo
      have k1 : (j : Int) < (n : Int) := by omega
      have k2 : ((len0 + j : Nat) : Int) < 64 := by omega
      have k3 : (len0 : Int) + (j : Int) < 64 := by omega
      have a8 := ho.kept ((Below.refl _ wr).alloc (Nat.le_refl _) (.cells #[.int .u8 0] 5))
      have r8 := own_one wr 0 (by omega)
      have b8 := hb.alloc hb.size (.cells #[.int .u8 0] 5)
      have s8 : w1.heap.size ≤ (wr.alloc (.cells #[.int .u8 0] 5)).heap.size := by simp; omega
      go_wp2_with (at_builtin; refine wpList_app rfl _ _ rfl w1.heap.size _ _ _ rfl a8 _ _ _ _ rfl r8 (fun h => by cases h) (by omega) s8 ?_; intro v8' w3 o8 g8)
      go_roundw
      case rel =>
        rw [zeros_next] at o8
        exact ⟨j + 1, by omega, by go_num, by omega, o8, below_own b8 a8 g8 hs1 b8.size, Nat.le_trans s8 g8.size⟩
      case measure => simp [intOf]; omega
    · have hz := Lib.hid (tag_zeros ks bs j (by rw [hk.1]; exact hlj))
      have hl := tag_len ks bs
      have heq := eq24 (tagI ks bs) hl
      clear hl
      by_cases hjn : j < n
      · have k1 : (j : Int) < (n : Int) := by omega
        have k2 : ¬ ((len0 + j : Nat) : Int) < 64 := by omega
        have k3 : ¬ (len0 : Int) + (j : Int) < 64 := by omega
        go_wp2_with fail
        refine (tag_any a0 len0 cap0 ks a1 len1 cap1 bs _ (row_below hb hk) (row_below hb hr) hc0 hc1 (ht.kept hb) (by omega) (by omega)).mono ?_
        rintro e w4 ⟨rfl, H4⟩
        have b4 := hb.trans (H4.mono hb.size)
        go_wp2_with (go_at_call 8; refine (tag_any A (len0 + j) c (ks ++ List.replicate j 0) a1 len1 cap1 bs _ (row_below H4 hq) (row_below b4 hr) hc hc1 (ht.kept b4) (by omega) (by omega)).mono ?_; rintro e w5 ⟨rfl, H5⟩; rw [hz.out])
        go_ret
        exact ⟨rfl, b4.trans (H5.mono b4.size)⟩
      · have k1 : ¬ (j : Int) < (n : Int) := by omega
        go_wp2_with fail
        refine (tag_any a0 len0 cap0 ks a1 len1 cap1 bs _ (row_below hb hk) (row_below hb hr) hc0 hc1 (ht.kept hb) (by omega) (by omega)).mono ?_
        rintro e w4 ⟨rfl, H4⟩
        have b4 := hb.trans (H4.mono hb.size)
        go_wp2_with (go_at_call 8; refine (tag_any A (len0 + j) c (ks ++ List.replicate j 0) a1 len1 cap1 bs _ (row_below H4 hq) (row_below b4 hr) hc hc1 (ht.kept b4) (by omega) (by omega)).mono ?_; rintro e w5 ⟨rfl, H5⟩; rw [hz.out])
        go_ret
        exact ⟨rfl, b4.trans (H5.mono b4.size)⟩
theorem walk (a0 : Option Addr) (len0 cap0 : Nat) (z0 : List Int) (a1 : Option Addr) (len1 cap1 : Nat) (z1 : List Int) (n : Int) (w : World) (w0 : IsRow .u8 w a0 len0 cap0 z0) (w1 : IsRow .u8 w a1 len1 cap1 z1) (w2 : (Lit.int .i64 n).wf = true) (ht : Tabs w) :
    Calls Tryd.prog 5 #[.slice a0 len0 cap0, .slice a1 len1 cap1, .int .i64 n] w fun e w' => e = .returned (.bool true) ∧ Below w.heap.size w w' := by
  obtain ⟨hk, hc0⟩ := row_of w0
  obtain ⟨hr, hc1⟩ := row_of w1
  by_cases h : 64 < len0 ∨ 500 < len1 ∨ n < 0 ∨ 64 < n
  · exact walk_out a0 len0 cap0 a1 len1 cap1 n w ht h
  · obtain ⟨N, rfl⟩ : ∃ N : Nat, n = (N : Int) := ⟨n.toNat, by omega⟩
    exact walk_within a0 len0 cap0 _ a1 len1 cap1 _ N w hk hr hc0 hc1 ht (by omega) (by omega) (by omega)
end Go.Proofs.YtienckdcdbcjhaaDoor.hmacKeys
