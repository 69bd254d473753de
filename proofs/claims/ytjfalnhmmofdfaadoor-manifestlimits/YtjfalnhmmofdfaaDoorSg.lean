/-
  Whether a manifest was written under a key, the program's Signed; conditions: key and row read as bytes, the tables lie as they were laid.
-/
import Derived.Test.YtjfalnhmmofdfaaDoorRe
import Derived.Test.YtjfalnhmmofdfaaDoorBt
import Derived.Test.YtjfalnhmmofdfaaDoorShaSame
namespace Go.Proofs.YtjfalnhmmofdfaaDoor
open Go.RowKit
set_option linter.unusedVariables false
set_option linter.unusedSimpArgs false

theorem readM_len (zs : List Int) : (readM zs).dig.length = 32 := by
  by_cases h : Good zs
  · rw [readM_yes h]; exact dig_len h.1
  · rw [readM_no h]; exact zero_len
theorem sign_no {ks zs : List Int} (h : ¬ Good zs) : signB ks zs = false := by unfold signB; rw [decide_eq_false h]; rfl
theorem sign_yes {ks zs : List Int} (h : Good zs) : signB ks zs = decide (zs.drop 60 = Sha.tagI ks (zs.take 60)) := by unfold signB; rw [decide_eq_true h, Bool.true_and]
set_option maxRecDepth 100000 in
set_option maxHeartbeats 1000000 in
theorem sig_any (a : Option Addr) (n cap : Nat) (ks : List Int) (A : Option Addr) (m c : Nat) (zs : List Int) (w : World) (hk : Row w a n ks) (hcap : n ≤ cap) (hn : n ≤ 1000000) (hr : Row w A m zs) (hc : m ≤ c) (hm : m ≤ 1000000) (ht : Sha.Tabs w) :
    Calls Tryd.prog 15 #[.slice a n cap, .slice A m c] w fun e w' => e = .returned (.bool (signB ks zs)) ∧ Below w.heap.size w w' := by
  have hz27 := zero27_run
  have hz2 := Sha.zero24_run
  have HR := Lib.hid (read_any A m c zs w hr hc hm)
  have HML := Lib.hid (readM_len zs)
  by_cases hg : Good zs
  · have HG := Lib.hid hg
    rw [sign_yes hg]
    have e92 : m = 92 := by rw [← hr.1]; exact hg.1
    subst e92
    obtain ⟨b, off, rfl, _, _⟩ := row_open hr (by omega)
    have r60 := row_upto hr 60 (by omega)
    have HBY := Lib.hid (tag_byt hk.2.1 (byt_take hr.2.1 60))
    have HTL := Lib.hid (Sha.tag_len ks (zs.take 60))
    clear hg hr
    go_enter Tryd.func15, Tryd.ntmps15
    go_wp2_with (first
      | (go_at_call 8; (with_reducible refine HR.out.mono ?_); rintro e w1 ⟨v1, rfl, o1, b1⟩; clear HR; rw [readE_yes HG.out]; rw [readT_yes HG.out, List.length_drop, HG.out.1] at o1; obtain ⟨A1, c1, rfl, hc1, r1, _⟩ := o1.form; clear o1; have hne := has_new w1 27 zeroM.cells)
      | (refine Sha.wpList_row rfl 27 _ _ rfl w1.heap.size (readM zs).cells rfl rfl 27 _ hne (size27 HML.out) (old27 zero_len HML.out) (mn_all _) ?_; intro w2 hs2 hon2; have b2 := Sha.below_only (b1.alloc b1.size (.cells zeroM.cells 27)) hon2 b1.size (b1.alloc b1.size (.cells zeroM.cells 27)).size; have r2 : Row w2 A1 (92 - 60) (zs.drop 60) := row_under (row_below ((Below.refl _ _).alloc (Nat.le_refl _) (.cells zeroM.cells 27)) r1) (row_lies r1) (only_grown hon2) (fun b e => by omega); have HT := Lib.hid (Sha.tag_any a n cap ks _ 60 c (zs.take 60) w2 (row_sha (row_below b2 hk)) (row_sha (row_below b2 r60)) hcap (by omega) (ht.kept b2) hn (by omega)))
      | (go_at_call 34; (with_reducible refine HT.out.mono ?_); rintro e w3 ⟨rfl, b3⟩; clear HT; have b3' := b2.trans (b3.mono b2.size); have r3 := row_below b3 r2; have hne3 := has_new w3 23 Sha.zero24)
      | (refine Sha.wpList_row rfl 23 _ _ rfl w3.heap.size (Sha.nums (Sha.tagI ks (zs.take 60))).toArray rfl rfl 23 _ hne3 (Sha.size24 HTL.out) (by rw [Sha.zero24_size, List.size_toArray, Sha.nums_len, HTL.out]) (Sha.nums_all _) ?_; intro w4 hs4 hon4; have b4 := Sha.below_only (b3'.alloc b3'.size (.cells Sha.zero24 23)) hon4 b3'.size (b3'.alloc b3'.size (.cells Sha.zero24 23)).size; have r4 : Row w4 A1 (92 - 60) (zs.drop 60) := row_under (row_below ((Below.refl _ _).alloc (Nat.le_refl _) (.cells Sha.zero24 23)) r3) (row_lies r3) (only_grown hon4) (fun b e => by omega); have HS := Lib.hid (Sha.same_any A1 (92 - 60) c1 (zs.drop 60) _ 32 32 _ w4 (row_sha r4) (Sha.has_row hs4 HTL.out HBY.out) hc1 (Nat.le_refl _) (by omega)))
      | (go_at_call 35; (with_reducible refine HS.out.mono ?_); rintro e w5 ⟨rfl, b5⟩; clear HS))
    go_ret
    exact ⟨rfl, b4.trans (b5.mono b4.size)⟩
  · have HG := Lib.hid hg
    rw [sign_no hg]
    clear hg hr
    go_enter Tryd.func15, Tryd.ntmps15
    go_wp2_with (first
      | (go_at_call 8; (with_reducible refine HR.out.mono ?_); rintro e w1 ⟨v1, rfl, o1, b1⟩; clear HR; rw [readE_no HG.out]; have hne := has_new w1 27 zeroM.cells)
      | (refine Sha.wpList_row rfl 27 _ _ rfl w1.heap.size (readM zs).cells rfl rfl 27 _ hne (size27 HML.out) (old27 zero_len HML.out) (mn_all _) ?_; intro w2 hs2 hon2; have b2 := Sha.below_only (b1.alloc b1.size (.cells zeroM.cells 27)) hon2 b1.size (b1.alloc b1.size (.cells zeroM.cells 27)).size))
    go_ret
    exact ⟨rfl, b2⟩
end Go.Proofs.YtjfalnhmmofdfaaDoor
