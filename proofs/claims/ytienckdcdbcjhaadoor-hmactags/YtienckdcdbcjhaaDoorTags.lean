/-
  The walk of the law HmacTags: the program's tag is the document's own; conditions: the tables lie as they were laid.
-/
import Derived.Test.YtienckdcdbcjhaaDoorLive
import Derived.Test.YtienckdcdbcjhaaDoorRtag
import Derived.Test.YtienckdcdbcjhaaDoorCards
namespace Go.Proofs.YtienckdcdbcjhaaDoor.hmacTags
open Go.ChangeShapes Go.WideShapes Go.ChangeAt Go.RowKit
set_option linter.unusedVariables false

set_option maxRecDepth 100000 in
set_option maxHeartbeats 1000000 in
theorem walk (a0 : Option Addr) (len0 cap0 : Nat) (z0 : List Int) (a1 : Option Addr) (len1 cap1 : Nat) (z1 : List Int) (w : World) (w0 : IsRow .u8 w a0 len0 cap0 z0) (w1 : IsRow .u8 w a1 len1 cap1 z1) (ht : Tabs w) :
    Calls Tryd.prog 3 #[.slice a0 len0 cap0, .slice a1 len1 cap1] w fun e w' => e = .returned (.bool true) ∧ Below w.heap.size w w' := by
  obtain ⟨hk, hc0⟩ := row_of w0
  obtain ⟨hr, hc1⟩ := row_of w1
  clear w0 w1
  by_cases h0 : 300 < len0
  · have i0 : (300 : Int) < (len0 : Int) := by omega
    go_enter Tryd.func3, Tryd.ntmps3
    go_wp2_with (go_at_call 7; refine (live_any _ ht).mono ?_; rintro e w1 ⟨rfl, H1⟩)
    go_ret
    exact ⟨rfl, H1⟩
  · have i0 : ¬ (300 : Int) < (len0 : Int) := by omega
    by_cases h1 : 1000 < len1
    · have i1 : (1000 : Int) < (len1 : Int) := by omega
      go_enter Tryd.func3, Tryd.ntmps3
      go_wp2_with (go_at_call 7; refine (live_any _ ht).mono ?_; rintro e w1 ⟨rfl, H1⟩)
      go_ret
      exact ⟨rfl, H1⟩
    · have i1 : ¬ (1000 : Int) < (len1 : Int) := by omega
      have htl := tag_len (z0.take len0) (z1.take len1)
      have heq := eq24 _ htl
      generalize z0.take len0 = ks at *
      generalize z1.take len1 = bs at *
      clear htl
      go_enter Tryd.func3, Tryd.ntmps3
      go_wp2_with (first
        | (go_at_call 7; refine (live_any _ ht).mono ?_; rintro e w1 ⟨rfl, H1⟩; have hk1 := row_below H1 hk; have hr1 := row_below H1 hr; have n1 := own_nil w1 w1.heap.size)
        | (at_builtin; refine wpList_app rfl _ _ rfl w2.heap.size _ _ _ rfl n2 _ _ _ _ rfl hr2 (row_none hr2) (by omega) (Nat.le_refl _) ?_; intro v3 w3 o3 g3)
        | (at_builtin; refine wpList_app rfl _ _ rfl w1.heap.size _ _ _ rfl n1 _ _ _ _ rfl hk1 (row_none hk1) (by omega) (Nat.le_refl _) ?_; intro v2 w2 o2 g2; have b2 := below_own H1 n1 g2 H1.size H1.size; have hr2 := row_below b2 hr; have n2 := own_nil w2 w2.heap.size))
      have c3 := below_own (Below.refl _ w2) n2 g3 (Nat.le_refl _) (Nat.le_refl _)
      have b3 := b2.trans (c3.mono b2.size)
      have k2 := o2.kept c3
      rw [Nat.zero_add, List.nil_append] at k2 o3
      obtain ⟨A2, e2, rfl, he2, hq2, _⟩ := k2.form
      obtain ⟨A3, e3, rfl, he3, hq3, _⟩ := o3.form
      clear o2 o3 k2 g2 g3 n1 n2 c3 hr2 hk1 hr1
      refine (tag_any A2 len0 e2 ks A3 len1 e3 bs _ hq2 hq3 he2 he3 (ht.kept b3) (by omega) (by omega)).mono ?_
      rintro e w4 ⟨rfl, H4⟩
      have b4 := b3.trans (H4.mono b3.size)
      go_wp2_with (go_at_call 9; refine (rtag_any a0 len0 cap0 ks a1 len1 cap1 bs _ (row_below b4 hk) (row_below b4 hr) hc0 hc1 (by omega) (by omega)).mono ?_; rintro e w5 ⟨rfl, H5⟩)
      go_ret
      exact ⟨rfl, b4.trans (H5.mono b4.size)⟩
end Go.Proofs.YtienckdcdbcjhaaDoor.hmacTags
