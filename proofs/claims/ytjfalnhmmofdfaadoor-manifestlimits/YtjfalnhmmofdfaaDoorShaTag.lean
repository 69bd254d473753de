/-
  The tag of bytes under a key, as the program reckons it; conditions: both read as rows of bytes, the tables lie as they were laid.
-/
import Derived.Test.YtjfalnhmmofdfaaDoorShaPad
namespace Go.Proofs.YtjfalnhmmofdfaaDoor.Sha
open Go.RowKit
set_option linter.unusedVariables false
set_option linter.unusedSimpArgs false

theorem row_off_lt {w : World} {a : Option Addr} {n b B : Nat} {zs : List Int} (h : Row w a n zs) (hB : w.heap.size ≤ B) (hb : B ≤ b) : Off a n b := row_off h (by omega)
set_option maxRecDepth 100000 in
set_option maxHeartbeats 2000000 in
theorem tag_any (a : Option Addr) (m cap : Nat) (ks : List Int) (a' : Option Addr) (m' cap' : Nat) (bs : List Int) (w : World) (hk : Row w a m ks) (hr : Row w a' m' bs) (hcap : m ≤ cap) (hcap' : m' ≤ cap') (ht : Tabs w) (hm : m ≤ 1000000) (hm' : m' ≤ 1000000) :
    Calls Tryd.prog 34 #[.slice a m cap, .slice a' m' cap'] w fun e w' => e = .returned (.agg (nums (tagI ks bs)).toArray) ∧ Below w.heap.size w w' := by
  have hz := zero30_run
  have hz2 := zero24_run
  have hba : Below w.heap.size w (w.alloc (.cells zero24 23)) := (Below.refl _ _).alloc (Nat.le_refl _) _
  have hbl := Lib.hid (blk_len ks)
  have hbb := byt_blk' hk.2.1
  have hkk := byt_keyed hk.2.1 (p := 54) (by omega)
  have hko := byt_keyed hk.2.1 (p := 92) (by omega)
  have hlk := Lib.hid (keyed_len 54 ks)
  have hlo := Lib.hid (keyed_len 92 ks)
  have hbz := hr.2.1
  have hlz := Lib.hid hr.1
  have htag := Lib.hid (show shaI (keyed 92 ks ++ shaI (keyed 54 ks ++ bs)) = tagI ks bs from rfl)
  have hpk : ∀ p, (blkI ks).map (xorI p) = keyed p ks := fun p => rfl
  have h0 := has_new w 23 zero24
  go_enter Tryd.func34, Tryd.ntmps34
  go_wp2_with fail
  refine (keyblk_any a m cap ks _ (row_below hba hk) hcap (ht.kept hba) (by omega)).mono ?_
  rintro e w1 ⟨rfl, H1⟩
  have hb1 := hba.trans (H1.mono hba.size)
  have hA1 := (h0.kept H1).more (.cells zero30 81)
  have hlt1 : w.heap.size < w1.heap.size := (h0.kept H1).size
  have hne := has_new w1 81 zero30
  have hb2 := hb1.alloc hb1.size (.cells zero30 81)
  clear h0 H1 hba
  generalize blkI ks = blk at *
  go_wp2_with (first
    | (refine wpList_row rfl 81 _ _ rfl w1.heap.size (nums blk).toArray rfl rfl 81 _ hne (size30 hbl.out) (by rw [zero30_size, List.size_toArray, nums_len, hbl.out]) (nums_all _) ?_; intro w3 hs3 hon3)
    | (refine wpList_load_row rfl 81 _ rfl w1.heap.size rfl 81 _ (0, 0) _ hs3 Tryd.underlying81 rfl (size30 hbl.out) ?_))
  have hb3 := below_only hb2 hon3 hb1.size hb2.size
  have hA3 : Has w3 w.heap.size 23 zero24 := (hon3.block _ hA1.size (by intro e; injection e; omega)).trans hA1
  clear hne hA1 hb2 hon3
  refine (padded_any blk 54 _ hbl.out hbb (by omega) (ht.kept hb3)).mono ?_
  rintro e w4 ⟨b4, bf4, rfl, hge4, hl4, hbb4, hn4, hs4, H4⟩
  rw [hpk] at hn4 hs4
  have HN4 := Lib.hid hn4
  have HL4 := Lib.hid hl4
  clear hn4 hl4
  have hb4 := hb3.trans (H4.mono hb3.size)
  have hA4 := hA3.kept H4
  have hK4 := hs3.kept H4
  have hlt3 := hs3.size
  have h1b : 1 < b4 := by have := ht.1; omega
  go_wp2_with fail
  refine (write_any b4 64 _ bf4 a' m' cap' bs _ (run_ok st0_ok hkk) HL4.out hbb4 hs4 (row_below hb4 hr) hcap' (row_off hr (by omega)) (ht.kept hb4) h1b (by omega)).mono ?_
  rintro e w5 ⟨rfl, bf5, hl5, hbb5, htk5, hs5, hon5⟩
  have e0 : bf4.take (64 % 64) ++ bs = bs := by simp
  rw [e0] at hs5 htk5
  have HT5 := Lib.hid htk5
  have HL5 := Lib.hid hl5
  clear htk5 hl5 e0
  have hb5 := below_only hb4 hon5 (show w.heap.size ≤ b4 by omega) hb4.size
  have hA5 : Has w5 w.heap.size 23 zero24 := (hon5.block _ hA4.size (by intro e; injection e; omega)).trans hA4
  have hK5 : Has w5 w1.heap.size 81 (nums blk).toArray := (hon5.block _ hK4.size (by intro e; injection e; omega)).trans hK4
  clear hA3 hs3 H4 hA4 hK4 hs4 hon5
  have hX5 := run_ok (run_ok st0_ok hkk) hbz
  go_wp2_with fail
  refine (sum_any b4 (64 + bs.length) _ bf5 _ hX5 HL5.out hbb5 hs5 (ht.kept hb5) (by have := hlz.out; omega)).mono ?_
  rintro e w6 ⟨rfl, H6⟩
  have hdig : sumI (run (run st0 (keyed 54 ks)).1 bs).1 (64 + bs.length) (bf5.take ((64 + bs.length) % 64)) = shaI (keyed 54 ks ++ bs) := by
    rw [HT5.out, ← sha_behind (keyed 54 ks) bs HN4.out, hlk.out]
  rw [hdig]
  have hsl := Lib.hid (sha_len (keyed 54 ks ++ bs))
  have hbd := byt_sha (byt_app hkk hbz)
  generalize shaI (keyed 54 ks ++ bs) = dig at *
  have hb6 := hb5.trans (H6.mono hb5.size)
  have hA6 := (hA5.kept H6).more (.cells zero24 23)
  have hK6 := (hK5.kept H6).more (.cells zero24 23)
  have hne6 := has_new w6 23 zero24
  have hb7 := hb6.alloc hb6.size (.cells zero24 23)
  have hlt6 : w.heap.size < w6.heap.size := (hA5.kept H6).size
  have hlt7 : w1.heap.size < w6.heap.size := (hK5.kept H6).size
  clear hA5 hK5 hs5 H6 hdig
  go_wp2_with (first
    | (refine wpList_row rfl 23 _ _ rfl w6.heap.size (nums dig).toArray rfl rfl 23 _ hne6 (size24 hsl.out) (by rw [zero24_size, List.size_toArray, nums_len, hsl.out]) (nums_all _) ?_; intro w8 hs8 hon8; have hK8 : Has w8 w1.heap.size 81 (nums blk).toArray := (hon8.block _ hK6.size (by intro e; injection e; omega)).trans hK6)
    | (refine wpList_load_row rfl 81 _ rfl w1.heap.size rfl 81 _ (0, 0) _ hK8 Tryd.underlying81 rfl (size30 hbl.out) ?_))
  have hb8 := below_only hb7 hon8 hb6.size hb7.size
  have hA8 : Has w8 w.heap.size 23 zero24 := (hon8.block _ hA6.size (by intro e; injection e; omega)).trans hA6
  clear hne6 hA6 hK6 hb7 hon8
  refine (padded_any blk 92 _ hbl.out hbb (by omega) (ht.kept hb8)).mono ?_
  rintro e w9 ⟨b9, bf9, rfl, hge9, hl9, hbb9, hn9, hs9, H9⟩
  rw [hpk] at hn9 hs9
  have HN9 := Lib.hid hn9
  have HL9 := Lib.hid hl9
  clear hn9 hl9
  have hb9 := hb8.trans (H9.mono hb8.size)
  have hA9 := hA8.kept H9
  have hD9 := hs8.kept H9
  have hlt8 := hs8.size
  have h1c : 1 < b9 := by have := ht.1; omega
  go_wp2_with fail
  refine (write_any b9 64 _ bf9 (some ⟨w6.heap.size, 0, none⟩) 32 32 dig _ (run_ok st0_ok hko) HL9.out hbb9 hs9 (has_row hD9 hsl.out hbd) (Nat.le_refl _) (fun _ x hx => by cases hx; simp; omega) (ht.kept hb9) h1c (by omega)).mono ?_
  rintro e wa ⟨rfl, bfa, hla, hbba, htka, hsa, hona⟩
  have e0 : bf9.take (64 % 64) ++ dig = dig := by simp
  rw [e0] at hsa htka
  have HTA := Lib.hid htka
  have HLA := Lib.hid hla
  clear htka hla e0
  have hbA := below_only hb9 hona (show w.heap.size ≤ b9 by omega) hb9.size
  have hAA : Has wa w.heap.size 23 zero24 := (hona.block _ hA9.size (by intro e; injection e; omega)).trans hA9
  clear hA8 hs8 H9 hA9 hD9 hs9 hona
  have hXA := run_ok (run_ok st0_ok hko) hbd
  go_wp2_with fail
  refine (sum_any b9 (64 + dig.length) _ bfa _ hXA HLA.out hbba hsa (ht.kept hbA) (by have := hsl.out; omega)).mono ?_
  rintro e wb ⟨rfl, HB⟩
  have hfin : sumI (run (run st0 (keyed 92 ks)).1 dig).1 (64 + dig.length) (bfa.take ((64 + dig.length) % 64)) = tagI ks bs := by
    rw [HTA.out, ← htag.out, ← sha_behind (keyed 92 ks) dig HN9.out, hlo.out]
  rw [hfin]
  have htl := Lib.hid (tag_len ks bs)
  generalize hT : tagI ks bs = tag at *
  have HT := Lib.hid hT
  clear hT
  have hbB := hbA.trans (HB.mono hbA.size)
  have hAB := hAA.kept HB
  clear hAA HB hsa hfin
  go_wp2_with (refine wpList_store_row rfl 23 _ _ rfl w.heap.size (nums tag).toArray rfl rfl 23 _ hAB (size24 htl.out) (by rw [zero24_size, List.size_toArray, nums_len, htl.out]) (nums_all _) ?_)
  exact bodyPost_ret (results_cell_row rfl _ _ w.heap.size 23 (nums tag).toArray (0, 0) _ rfl (setRow_heap _ _ _ _ _ _ hAB) Tryd.underlying23 rfl (size24 htl.out)) rfl ⟨by rw [HT.out], below_setRow hbB (Nat.le_refl _) _⟩
end Go.Proofs.YtjfalnhmmofdfaaDoor.Sha
