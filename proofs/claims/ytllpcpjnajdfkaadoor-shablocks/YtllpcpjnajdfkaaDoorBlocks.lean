/-
  The walk of the law ShaBlocks: bytes of any length up to 200, in two parts; conditions: the tables lie as they were laid.
-/
import Derived.Test.YtllpcpjnajdfkaaDoorLaid
import Derived.Test.YtllpcpjnajdfkaaDoorCards
import Derived.Test.YtllpcpjnajdfkaaDoorSave
import Derived.Deep.RegionHeld3
import Derived.Deep.MidRow
namespace Go.Proofs.YtllpcpjnajdfkaaDoor.shaBlocks
open Go.ChangeShapes Go.WideShapes Go.ChangeAt Go.RowKit
set_option linter.unusedVariables false
set_option linter.unusedSimpArgs false

/-- The bytes so far: k of N. -/
def fill (c : Int) (N k : Nat) : List Int := (List.range N).map fun j => if j < k then (c + (j : Int)) % 256 else 0
theorem fill_len (c : Int) (N k : Nat) : (fill c N k).length = N := by simp [fill]
theorem fill_byt (c : Int) (N k : Nat) : Byt (fill c N k) := by
  intro n hn
  simp only [fill, List.mem_map] at hn
  obtain ⟨j, _, rfl⟩ := hn
  split <;> omega
theorem fill_zero (c : Int) (N : Nat) : (nums (fill c N 0)).toArray = zeroBytes N := by
  unfold zeroBytes
  congr 2
  apply List.ext_getElem?
  intro i
  by_cases hi : i < N
  · simp [fill, hi]
  · rw [List.getElem?_eq_none (by rw [fill_len]; omega), List.getElem?_eq_none (by simp; omega)]
theorem fill_next (c : Int) (N k : Nat) (hk : k < N) : (nums (fill c N k)).toArray.setIfInBounds k (.int .u8 ((c + (k : Int)) % 256)) = (nums (fill c N (k + 1))).toArray := by
  apply Array.ext_getElem?
  intro i
  rw [Array.getElem?_setIfInBounds]
  by_cases hi : i < N
  · by_cases e : k = i
    · subst e
      simp [nums, fill, hk]
    · rw [if_neg e]
      simp only [nums, fill, List.getElem?_toArray, List.getElem?_map, List.getElem?_range hi, Option.map_some]
      by_cases h : i < k
      · rw [if_pos h, if_pos (by omega)]
      · rw [if_neg h, if_neg (by omega)]
  · rw [if_neg (by omega), Array.getElem?_eq_none (by simp [nums, fill_len]; omega), Array.getElem?_eq_none (by simp [nums, fill_len]; omega)]
theorem row_has {w : World} {b : Nat} {zs : List Int} {n : Nat} (hb : Byt zs) (hn : zs.length = n) (h : Has w b 5 (nums zs).toArray) : Row w (some ⟨b, 0, none⟩) n zs :=
  row_mk hn hb h.size (fun j hj => by
    rw [h.at, Nat.zero_add]
    simp only [nums, List.getElem?_toArray, List.getElem?_map, List.getD_eq_getElem?_getD]
    rw [List.getElem?_eq_getElem (by omega)]; rfl)
theorem range_of {w : World} {g : Nat} {dig : List Int} (h : Has w g 24 (nums dig).toArray) : w.rangeAt g 0 (nums dig) := by
  intro j v hv
  rw [Nat.zero_add, h.at]
  simpa using hv
set_option maxRecDepth 100000 in
set_option maxHeartbeats 2000000 in
theorem walk_out (n cut c : Int) (w : World) (ht : Tabs w) (h : n < 0 ∨ 200 < n ∨ cut < 0) : Calls Tryd.prog 6 #[.int .i64 n, .int .i64 cut, .int .u8 c] w fun e w' => e = .returned (.bool true) ∧ Below w.heap.size w w' := by
  by_cases h1 : n < 0
  · go_enter Tryd.func6, Tryd.ntmps6
    go_wp2_with (go_at_call 7; refine (alive_any _ ht).mono ?_; rintro e w1 ⟨rfl, H1⟩)
    go_ret
    exact ⟨rfl, H1⟩
  · by_cases h2 : 200 < n
    · go_enter Tryd.func6, Tryd.ntmps6
      go_wp2_with (go_at_call 7; refine (alive_any _ ht).mono ?_; rintro e w1 ⟨rfl, H1⟩)
      go_ret
      exact ⟨rfl, H1⟩
    · have h3 : cut < 0 := by omega
      go_enter Tryd.func6, Tryd.ntmps6
      go_wp2_with (go_at_call 7; refine (alive_any _ ht).mono ?_; rintro e w1 ⟨rfl, H1⟩)
      go_ret
      exact ⟨rfl, H1⟩
set_option maxRecDepth 100000 in
set_option maxHeartbeats 4000000 in
theorem walk_within (N : Nat) (cut c : Int) (w : World) (ht : Tabs w) (hN : N ≤ 200) (hcut : 0 ≤ cut ∧ cut ≤ 9223372036854775807) (hc : 0 ≤ c ∧ c ≤ 255) :
    Calls Tryd.prog 6 #[.int .i64 (N : Int), .int .i64 cut, .int .u8 c] w fun e w' => e = .returned (.bool true) ∧ Below w.heap.size w w' := by
  have hmk := make_bytes .i64 .i64 N N (Nat.le_refl _) (by omega)
  have i0 : ¬ ((N : Int) < 0) := by omega
  have i1 : (N : Int) ≤ 200 := by omega
  go_enter Tryd.func6, Tryd.ntmps6
  go_wp2_with (go_at_call 7; refine (alive_any _ ht).mono ?_; rintro e w1 ⟨rfl, H1⟩)
  go_loopw [9] (fun i wr => ∃ k : Nat, k ≤ N ∧ i = .int .i64 k ∧ Has wr w1.heap.size 5 (nums (fill c N k)).toArray ∧ Below w.heap.size w wr) (fun i _ => N - (intOf i).toNat)
  case atStart => exact ⟨0, by omega, rfl, by rw [fill_zero]; exact has_new w1 5 _, H1.alloc H1.size _⟩
  case round =>
    obtain ⟨k, hk, rfl, hg, hb⟩ := hrel
    by_cases hlt : k < N
    · have qk : wr.cell? ⟨w1.heap.size, k, none⟩ = some (.int .u8 0) := by
        rw [hg.at]
        simp [nums, fill, hlt]
      have fk := hg.soft k
      have ik : (k : Int) < (N : Int) := by omega
      have ik2 : (k : Int) ≤ 255 := by omega
      go_wp2
      go_roundw
      case rel => exact ⟨k + 1, by omega, by go_num, by rw [← fill_next c N k hlt]; exact hg.put k _, hb.setCell H1.size _⟩
      case measure => simp [intOf]; omega
    · have hkN : k = N := by omega
      rw [hkN] at hg
      clear hkN
      have hrow := row_has (fill_byt c N N) (fill_len c N N) hg
      have hzb := fill_byt c N N
      have hzl := Lib.hid (fill_len c N N)
      generalize fill c N N = zs at *
      obtain ⟨K, hKe, hKN⟩ : ∃ K : Nat, cut % ((N : Int) + 1) = (K : Int) ∧ K ≤ N := ⟨(cut % ((N : Int) + 1)).toNat, by have := Int.emod_nonneg cut (show ((N : Int) + 1) ≠ 0 by omega); omega, by have := Int.emod_lt_of_pos cut (show 0 < ((N : Int) + 1) by omega); omega⟩
      have hKt : cut.tmod ((N : Int) + 1) = (K : Int) := by rw [Int.tmod_eq_emod_of_nonneg hcut.1]; exact hKe
      have hne : ¬ ((N : Int) + 1 = 0) := by omega
      have htr := ht.kept hb
      have iKN : (K : Int) ≤ (N : Int) := by omega
      have hlt1 : w1.heap.size < wr.heap.size := hg.size
      obtain ⟨wa, rfl⟩ : ∃ x, x = wr := ⟨_, rfl⟩
      go_wp2_with fail
      refine (new_any _ htr).mono ?_
      rintro e w2 ⟨sb, rfl, hsb, hs2, H2⟩
      have hb2 := hb.trans (H2.mono hb.size)
      have hr2 := row_below H2 hrow
      have hsn : 1 < sb := by have := htr.1; omega
      have hoff : ∀ m, Off (some ⟨w1.heap.size, 0, none⟩) m sb := fun m _ x hx => by cases hx; show w1.heap.size ≠ sb; omega
      go_wp2_with fail
      refine (write_any sb 0 st0 noBytes _ K N (zs.take K) _ st0_ok no_len no_byt hs2 (row_upto hr2 K hKN) hKN (hoff K) (htr.kept H2) hsn (by omega)).mono ?_
      rintro e w3 ⟨rfl, bf3, hl3, hbb3, htk3, hs3, hon3⟩
      have hlt2 : (zs.take K).length = K := by rw [List.length_take, hzl.out]; omega
      rw [show noBytes.take (0 % 64) ++ zs.take K = zs.take K by simp, Nat.zero_add, hlt2] at hs3 htk3
      have hb3 := below_only hb2 hon3 (show w.heap.size ≤ sb by have := hb.size; omega) hb2.size
      have hr3 := row_only hr2 hon3 (hoff N)
      have HL3 := Lib.hid hl3
      have HT3 := Lib.hid htk3
      have HK2 := Lib.hid hlt2
      clear hl3 htk3 hlt2
      have HZL := Lib.hid (show (zs.drop K).length = N - K by rw [List.length_drop, hzl.out])
      have hz2 := zero24_run
      go_wp2_with (refine wpList_from rfl _ _ rfl _ _ _ rfl .i64 K rfl zs hr3 hKN (Nat.le_refl _) ?_; intro A5 hr5 hoff5)
      refine (write_any sb K _ bf3 A5 (N - K) (N - K) (zs.drop K) _ (run_ok st0_ok (byt_take hzb K)) HL3.out hbb3 hs3 hr5 (Nat.le_refl _) (hoff5 sb (hoff N)) (ht.kept hb3) hsn (by omega)).mono ?_
      rintro e w4 ⟨rfl, bf4, hl4, hbb4, htk4, hs4, hon4⟩
      rw [HT3.out, ← run_app, List.take_append_drop, HZL.out, show K + (N - K) = N by omega] at hs4 htk4
      have hb4 := below_only hb3 hon4 (show w.heap.size ≤ sb by have := hb.size; omega) hb3.size
      have hr4 := row_only hr3 hon4 (hoff N)
      have HL4 := Lib.hid hl4
      have HT4 := Lib.hid htk4
      have hX := run_ok st0_ok hzb
      have hrl := Lib.hid (run_len st0_ok hzb)
      clear hl4 htk4 hs3 hr5 hoff5 hon4 hon3 hr3 hs2
      go_wp2_with fail
      refine (sum_any sb N _ bf4 _ hX HL4.out hbb4 hs4 (ht.kept hb4) (by omega)).mono ?_
      rintro e w5 ⟨rfl, H5⟩
      rw [HT4.out, show sumI (run st0 zs).1 N (run st0 zs).2 = shaI zs by unfold shaI; rw [hzl.out]]
      have hb5 := hb4.trans (H5.mono hb4.size)
      have hs5 := hs4.kept H5
      have hr6 := row_below H5 hr4
      have hne5 := has_new w5 24 zero24
      have hb5' := hb5.alloc hb5.size (.cells zero24 24)
      have hsl := Lib.hid (show (shaI zs).length = 32 from rfl)
      go_wp2_with ((refine wpList_row rfl 24 _ _ rfl w5.heap.size (nums (shaI zs)).toArray rfl rfl 24 _ hne5 (size24 hsl.out) (by rw [zero24_size, List.size_toArray, nums_len, hsl.out]) (nums_all _) ?_; intro w6 hG6 hon6))
      have hs5a := hs5.more (.cells zero24 24)
      have hs6 : Has w6 sb 49 (smCells (run st0 zs).1 N bf4) := (hon6.block _ hs5a.size (by have := hs5.size; intro e; injection e; omega)).trans hs5a
      have hb6 := below_only hb5' hon6 hb5.size hb5'.size
      have hr6a := row_below ((Below.refl _ w5).alloc (Nat.le_refl _) (.cells zero24 24)) hr6
      have hr7 := row_only hr6a hon6 (row_off hr6 (Nat.le_refl _))
      have hsbG : sb < w5.heap.size := hs5.size
      have hBG : w1.heap.size < w5.heap.size := by have := H2.size; have := hb4.size; omega
      refine (write_any sb N _ bf4 none 0 0 [] _ hX HL4.out hbb4 hs6 ⟨rfl, fun n hn => by simp at hn, .inl rfl⟩ (Nat.le_refl _) (fun h => absurd h (by omega)) (ht.kept hb6) hsn (by omega)).mono ?_
      rintro e w7 ⟨rfl, bf7, hl7, hbb7, htk7, hs7, hon7⟩
      have hrs := run_small (run st0 zs).1 (run st0 zs).2 (by rw [hrl.out, hzl.out]; omega)
      rw [HT4.out, List.append_nil, hrs, List.length_nil, Nat.add_zero] at hs7 htk7
      have hb7 := below_only hb6 hon7 (show w.heap.size ≤ sb by have := hb.size; omega) hb6.size
      have hr8 := row_only hr7 hon7 (hoff N)
      have hG7 : Has w7 w5.heap.size 24 (nums (shaI zs)).toArray := (hon7.block _ hG6.size (by intro e; injection e; omega)).trans hG6
      have HL7 := Lib.hid hl7
      have HT7 := Lib.hid htk7
      clear hl7 htk7 hs6 hs5a hon6 hon7 hr7 hr6a hne5 hb5' hr6 hs5 hr4 hs4 hG6
      obtain ⟨X, hXe⟩ : ∃ X, (run st0 zs).1 = X := ⟨_, rfl⟩
      obtain ⟨R, hRe⟩ : ∃ R, (run st0 zs).2 = R := ⟨_, rfl⟩
      have hsh : ∀ W, Below w7.drew.heap.size w7.drew W → Calls Tryd.prog 9 #[.slice (some ⟨w1.heap.size, 0, none⟩) N N] W fun e w' => e = .returned (.agg (nums (shaI zs)).toArray) ∧ Below W.heap.size W w' :=
        fun W hW => rsha_any _ N N zs W (row_below hW (row_below ((Below.refl _ w7).drew) hr8)) (Nat.le_refl _) (by omega)
      have hsm : ∀ W, Below w7.heap.size w7.drew W → Calls Tryd.prog 15 #[.pointer (some ⟨sb, 0, none⟩)] W fun e w' => e = .returned (.agg (nums (shaI zs)).toArray) ∧ Below W.heap.size W w' := fun W hW => by
        have := sum_any sb N _ bf7 W hX HL7.out hbb7 (Has.kept (w := w7.drew) hs7 hW) (((ht.kept hb7).kept ((Below.refl _ w7).drew)).kept hW) (by omega)
        rw [HT7.out, show sumI (run st0 zs).1 N (run st0 zs).2 = shaI zs by unfold shaI; rw [hzl.out]] at this
        exact this
      have hsv : ∀ W, Below w7.heap.size w7.drew W → Calls Tryd.prog 14 #[.pointer (some ⟨sb, 0, none⟩)] W (Gives (40 + N % 64) (saveI (run st0 zs).1 N (bf7.take (N % 64))) W) := fun W hW =>
        save_any sb N _ bf7 W hX HL7.out hbb7 (Has.kept (w := w7.drew) hs7 hW) (by omega)
      have hqW : ∀ W, Below w7.heap.size w7.drew W → W.rangeAt w5.heap.size 0 (nums (shaI zs)) := fun W hW => range_of (Has.kept (w := w7.drew) hG7 hW)
      have r7 := hqW w7.drew (Below.refl _ _)
      have b7 : Below w7.heap.size w7.drew w7.drew := Below.refl _ _
      have heq := eq24 (shaI zs) hsl.out
      have hu24 := Tryd.underlying24
      have hi24 : (Tryd.prog.info? 24).map (·.size) = some (nums (shaI zs)).length := by rw [nums_len, hsl.out]; kernel_rfl
      generalize shaI zs = dig at *
      have hl1 : ((40 + N % 64 : Nat) : Int) = 40 + (N : Int) % 64 := by omega
      have ht64 : (N : Int).tmod 64 = (N : Int) % 64 := Int.tmod_eq_emod_of_nonneg (by omega)
      have hw40 : IntKind.i64.wrap (40 + (N : Int) % 64) = 40 + (N : Int) % 64 := by rw [IntKind.wrap_i64]; omega
      have HA := Lib.hid hsh
      have HB := Lib.hid hsm
      have HC := Lib.hid hsv
      have HD := Lib.hid hqW
      clear hsh hsm hsv hqW hG7 hs7 HT7 hr8
      go_wp2_with fail
      refine wp_region_held_drew (S := fun w' => w'.rangeAt w5.heap.size 0 (nums dig) ∧ Below w7.heap.size w7.drew w') (by kernel_rfl) ⟨r7, b7⟩ ?_
      intro hS7
      refine wpAnyH_take (i := 0) (v := .agg (nums dig).toArray) rfl (by kernel_rfl) (by kernel_rfl) (by kernel_rfl) (fun _ _ _ h => h) (yieldsIf_load_mid (by rfl) 24 (.tmp 12) rfl w5.heap.size 0 rfl (nums dig) _ (fun W hW => hW.1) hu24 rfl hi24) hS7 ?_
      simp only [List.getElem_toArray, List.getElem_cons_succ, List.getElem_cons_zero, Act.put, List.setIfInBounds_toArray, List.set_cons_zero, List.set_cons_succ]
      refine wpAnyH_take (i := 1) (v := .slice (some ⟨w1.heap.size, 0, none⟩) N N) rfl (by kernel_rfl) (by kernel_rfl) (by kernel_rfl) (fun _ _ _ h => h) (Or.inl ⟨by rfl, (fun W _ => by go_simp)⟩) hS7 ?_
      simp only [List.getElem_toArray, List.getElem_cons_succ, List.getElem_cons_zero, Act.put, List.setIfInBounds_toArray, List.set_cons_zero, List.set_cons_succ]
      refine wpAnyH_ready (rs := [2]) (by kernel_rfl) (by simp) ?_
      refine AllReadyH.cons rfl (fun K hK => ?_) AllReadyH.nil
      go_simp
      refine (HA.out _ (Below.refl _ _)).mono ?_
      rintro e w8 ⟨rfl, H8'⟩; have hS8 : w8.rangeAt w5.heap.size 0 (nums dig) ∧ Below w7.heap.size w7.drew w8 := ⟨HD.out w8 H8', H8'⟩
      refine hK.out _ _ hS8 (fun _ => ?_)
      clear hK K
      refine wpAnyH_take (i := 3) (v := .bool true) rfl (by kernel_rfl) (by kernel_rfl) (by kernel_rfl) (fun _ _ _ h => h) (Or.inl ⟨by rfl, (fun W _ => by go_simp)⟩) hS8 ?_
      simp only [List.getElem_toArray, List.getElem_cons_succ, List.getElem_cons_zero, Act.put, List.setIfInBounds_toArray, List.set_cons_zero, List.set_cons_succ]
      refine wpAnyH_take (i := 4) (v := .bool true) rfl (by kernel_rfl) (by kernel_rfl) (by kernel_rfl) (fun _ _ _ h => h) (Or.inl ⟨by rfl, (fun W _ => by go_simp)⟩) hS8 ?_
      simp only [List.getElem_toArray, List.getElem_cons_succ, List.getElem_cons_zero, Act.put, List.setIfInBounds_toArray, List.set_cons_zero, List.set_cons_succ]
      refine wpAnyH_take (i := 5) (v := .pointer (some ⟨sb, 0, none⟩)) rfl (by kernel_rfl) (by kernel_rfl) (by kernel_rfl) (fun _ _ _ h => h) (Or.inl ⟨by rfl, (fun W _ => by go_simp)⟩) hS8 ?_
      simp only [List.getElem_toArray, List.getElem_cons_succ, List.getElem_cons_zero, Act.put, List.setIfInBounds_toArray, List.set_cons_zero, List.set_cons_succ]
      refine wpAnyH_take (i := 7) (v := .agg (nums dig).toArray) rfl (by kernel_rfl) (by kernel_rfl) (by kernel_rfl) (fun _ _ _ h => h) (yieldsIf_load_mid (by rfl) 24 (.tmp 12) rfl w5.heap.size 0 rfl (nums dig) _ (fun W hW => hW.1) hu24 rfl hi24) hS8 ?_
      simp only [List.getElem_toArray, List.getElem_cons_succ, List.getElem_cons_zero, Act.put, List.setIfInBounds_toArray, List.set_cons_zero, List.set_cons_succ]
      refine wpAnyH_ready (rs := [6]) (by kernel_rfl) (by simp) ?_
      refine AllReadyH.cons rfl (fun K hK => ?_) AllReadyH.nil
      go_simp
      refine (HB.out _ H8').mono ?_
      rintro e w9 ⟨rfl, H9⟩; have H9' := H8'.trans (H9.mono H8'.size); have hS9 : w9.rangeAt w5.heap.size 0 (nums dig) ∧ Below w7.heap.size w7.drew w9 := ⟨HD.out w9 H9', H9'⟩
      refine hK.out _ _ hS9 (fun _ => ?_)
      clear hK K
      refine wpAnyH_take (i := 8) (v := .bool true) rfl (by kernel_rfl) (by kernel_rfl) (by kernel_rfl) (fun _ _ _ h => h) (Or.inl ⟨by rfl, (fun W _ => by go_simp)⟩) hS9 ?_
      simp only [List.getElem_toArray, List.getElem_cons_succ, List.getElem_cons_zero, Act.put, List.setIfInBounds_toArray, List.set_cons_zero, List.set_cons_succ]
      refine wpAnyH_take (i := 9) (v := .bool true) rfl (by kernel_rfl) (by kernel_rfl) (by kernel_rfl) (fun _ _ _ h => h) (Or.inl ⟨by rfl, (fun W _ => by go_simp)⟩) hS9 ?_
      simp only [List.getElem_toArray, List.getElem_cons_succ, List.getElem_cons_zero, Act.put, List.setIfInBounds_toArray, List.set_cons_zero, List.set_cons_succ]
      refine wpAnyH_take (i := 10) (v := .bool true) rfl (by kernel_rfl) (by kernel_rfl) (by kernel_rfl) (fun _ _ _ h => h) (Or.inl ⟨by rfl, (fun W _ => by go_simp)⟩) hS9 ?_
      simp only [List.getElem_toArray, List.getElem_cons_succ, List.getElem_cons_zero, Act.put, List.setIfInBounds_toArray, List.set_cons_zero, List.set_cons_succ]
      refine wpAnyH_take (i := 11) (v := .pointer (some ⟨sb, 0, none⟩)) rfl (by kernel_rfl) (by kernel_rfl) (by kernel_rfl) (fun _ _ _ h => h) (Or.inl ⟨by rfl, (fun W _ => by go_simp)⟩) hS9 ?_
      simp only [List.getElem_toArray, List.getElem_cons_succ, List.getElem_cons_zero, Act.put, List.setIfInBounds_toArray, List.set_cons_zero, List.set_cons_succ]
      refine wpAnyH_take (i := 14) (v := .int .i64 (N : Int)) rfl (by kernel_rfl) (by kernel_rfl) (by kernel_rfl) (fun _ _ _ h => h) (Or.inl ⟨by rfl, (fun W _ => by go_simp)⟩) hS9 ?_
      simp only [List.getElem_toArray, List.getElem_cons_succ, List.getElem_cons_zero, Act.put, List.setIfInBounds_toArray, List.set_cons_zero, List.set_cons_succ]
      refine wpAnyH_take (i := 15) (v := .int .i64 ((N : Int) % 64)) rfl (by kernel_rfl) (by kernel_rfl) (by kernel_rfl) (fun _ _ _ h => h) (Or.inl ⟨by rfl, (fun W _ => by go_simp)⟩) hS9 ?_
      simp only [List.getElem_toArray, List.getElem_cons_succ, List.getElem_cons_zero, Act.put, List.setIfInBounds_toArray, List.set_cons_zero, List.set_cons_succ]
      refine wpAnyH_take (i := 16) (v := .int .i64 (40 + (N : Int) % 64)) rfl (by kernel_rfl) (by kernel_rfl) (by kernel_rfl) (fun _ _ _ h => h) (Or.inl ⟨by rfl, (fun W _ => by go_simp)⟩) hS9 ?_
      simp only [List.getElem_toArray, List.getElem_cons_succ, List.getElem_cons_zero, Act.put, List.setIfInBounds_toArray, List.set_cons_zero, List.set_cons_succ]
      refine wpAnyH_ready (rs := [12]) (by kernel_rfl) (by simp) ?_
      refine AllReadyH.cons rfl (fun K hK => ?_) AllReadyH.nil
      go_simp
      refine (HC.out _ H9').mono ?_
      rintro e w10 ⟨v10, rfl, ho10, H10⟩; have H10' := H9'.trans (H10.mono H9'.size); have hS10 : w10.rangeAt w5.heap.size 0 (nums dig) ∧ Below w7.heap.size w7.drew w10 := ⟨HD.out w10 H10', H10'⟩; obtain ⟨A10, c10, rfl, _, _, _⟩ := ho10.form
      refine hK.out _ _ hS10 (fun _ => ?_)
      clear hK K
      refine wpAnyH_take (i := 13) (v := .int .i64 ((40 + N % 64 : Nat) : Int)) rfl (by kernel_rfl) (by kernel_rfl) (by kernel_rfl) (fun _ _ _ h => h) (Or.inl ⟨by rfl, (fun W _ => by go_simp)⟩) hS10 ?_
      simp only [List.getElem_toArray, List.getElem_cons_succ, List.getElem_cons_zero, Act.put, List.setIfInBounds_toArray, List.set_cons_zero, List.set_cons_succ]
      refine wpAnyH_take (i := 17) (v := .bool true) rfl (by kernel_rfl) (by kernel_rfl) (by kernel_rfl) (fun _ _ _ h => h) (Or.inl ⟨by rfl, (fun W _ => by go_simp)⟩) hS10 ?_
      simp only [List.getElem_toArray, List.getElem_cons_succ, List.getElem_cons_zero, Act.put, List.setIfInBounds_toArray, List.set_cons_zero, List.set_cons_succ]
      refine wpAnyH_take (i := 18) (v := .bool true) rfl (by kernel_rfl) (by kernel_rfl) (by kernel_rfl) (fun _ _ _ h => h) (Or.inl ⟨by rfl, (fun W _ => by go_simp)⟩) hS10 ?_
      simp only [List.getElem_toArray, List.getElem_cons_succ, List.getElem_cons_zero, Act.put, List.setIfInBounds_toArray, List.set_cons_zero, List.set_cons_succ]
      refine wpAnyH_take (i := 19) (v := .bool true) rfl (by kernel_rfl) (by kernel_rfl) (by kernel_rfl) (fun _ _ _ h => h) (Or.inl ⟨by rfl, (fun W _ => by go_simp)⟩) hS10 ?_
      simp only [List.getElem_toArray, List.getElem_cons_succ, List.getElem_cons_zero, Act.put, List.setIfInBounds_toArray, List.set_cons_zero, List.set_cons_succ]
      refine wpAnyH_done (by kernel_rfl) ?_ _
      have hfin := hb7.drew.trans (H10'.mono hb7.size)
      clear hS7 hS8 hS9 hS10 heq hu24 hi24 hl1
      go_wp2
      go_ret
      exact ⟨rfl, hfin⟩
theorem walk (n cut c : Int) (w : World) (w0 : (Lit.int .i64 n).wf = true) (w1 : (Lit.int .i64 cut).wf = true) (w2 : (Lit.int .u8 c).wf = true) (ht : Tabs w) : Calls Tryd.prog 6 #[.int .i64 n, .int .i64 cut, .int .u8 c] w fun e w' => e = .returned (.bool true) ∧ Below w.heap.size w w' := by
  by_cases h : n < 0 ∨ 200 < n ∨ cut < 0
  · exact walk_out n cut c w ht h
  · obtain ⟨N, rfl⟩ : ∃ N : Nat, n = (N : Int) := ⟨n.toNat, by omega⟩
    exact walk_within N cut c w ht (by omega) ⟨by omega, (bounds_i64 w1).2⟩ (bounds_u8 w2)
end Go.Proofs.YtllpcpjnajdfkaaDoor.shaBlocks
