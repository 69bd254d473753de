/-
  The tag of bytes under a key, as the document's own function reckons it; conditions: both read as rows of bytes.
-/
import Derived.Test.YtjfalnhmmofdfaaDoorShaPad
import Derived.Test.YtjfalnhmmofdfaaDoorShaAlive
namespace Go.Proofs.YtjfalnhmmofdfaaDoor.Sha
open Go.RowKit
set_option linter.unusedVariables false
set_option linter.unusedSimpArgs false

/-- Two rows that a call made lie in different blocks. -/
def Apart (v v' : Value) : Prop := ∀ g, v.ownBlock = some g → v'.ownBlock ≠ some g
theorem Apart.symm {v v' : Value} (h : Apart v v') : Apart v' v := fun g h1 h2 => h g h2 h1
theorem apart_nil (v : Value) : Apart v (.slice none 0 0) := fun g _ h => by simp [Value.ownBlock] at h
/-- Rows with other first bytes do. -/
theorem apart_of {w : World} {B B' n n' : Nat} {v v' : Value} {xs ys : List Int} (h : Own w B v n xs) (h' : Own w B' v' n' ys) (hn : 0 < n) (hn' : 0 < n') (hne : xs.getD 0 0 ≠ ys.getD 0 0) : Apart v v' := by
  intro g h1 h2
  obtain ⟨A, c, rfl, _, hr, _⟩ := h.form
  obtain ⟨A', c', rfl, _, hr', _⟩ := h'.form
  obtain ⟨b, off, rfl, _, hc⟩ := row_open hr hn
  obtain ⟨b', off', rfl, _, hc'⟩ := row_open hr' hn'
  have e1 : b = g := by simpa [Value.ownBlock] using h1
  have e2 : b' = g := by simpa [Value.ownBlock] using h2
  subst e1
  subst e2
  rcases h.1.2 with ⟨e, _⟩ | ⟨g1, k1, cur1, e, _⟩
  · cases e
  · rcases h'.1.2 with ⟨e', _⟩ | ⟨g2, k2, cur2, e', _⟩
    · cases e'
    · cases e
      cases e'
      have q1 := hc 0 hn
      have q2 := hc' 0 hn'
      rw [q1] at q2
      simp only [Option.some.injEq, Value.int.injEq, true_and] at q2
      exact hne q2
/-- A row stays while another one grows. -/
theorem Own.keep {w w' : World} {B : Nat} {v v' : Value} {n : Nat} {ys : List Int} (h : Own w B v' n ys) (ha : Apart v v') (hg : w.grownBy w' v.ownBlock) : Own w' B v' n ys := by
  obtain ⟨⟨h1, h2⟩, h3⟩ := h
  refine ⟨⟨h1, ?_⟩, h3⟩
  rcases h2 with h2 | ⟨g, cap, cur, e1, e2, e3, e4⟩
  · exact .inl h2
  · refine .inr ⟨g, cap, cur, e1, e2, (hg.block g (Array.getElem?_eq_some_iff.1 e3).1 (fun e => ?_)).trans e3, e4⟩
    exact ha g e.symm (by rw [e1]; rfl)
theorem xor_next (p : Int) (bs : List Int) (k : Nat) (h : k < bs.length) : (bs.take k).map (xorI p) ++ [bits .xor .u8 (bs.getD k 0) p] = (bs.take (k + 1)).map (xorI p) := by
  rw [List.take_succ_eq_append_getElem h, List.map_append, List.getD_eq_getElem?_getD, List.getElem?_eq_getElem h]
  rfl
theorem xor_first (bs : List Int) (j k : Nat) (h : 0 < bs.length) (hj : 0 < j) (hk : 0 < k) (hb : Byt bs) : ((bs.take j).map (xorI 54)).getD 0 0 ≠ ((bs.take k).map (xorI 92)).getD 0 0 := by
  cases bs with
  | nil => simp at h
  | cons x xs =>
    obtain ⟨j, rfl⟩ : ∃ i, j = i + 1 := ⟨j - 1, by omega⟩
    obtain ⟨k, rfl⟩ : ∃ i, k = i + 1 := ⟨k - 1, by omega⟩
    simp only [List.take_succ_cons, List.map_cons, List.getD_cons_zero]
    intro e
    have hx := hb x (by simp)
    unfold xorI at e
    rw [bits_xor x 54 hx (by omega), bits_xor x 92 hx (by omega)] at e
    have e2 : x.toNat ^^^ 54 = x.toNat ^^^ 92 := by
      have : ((x.toNat ^^^ 54 : Nat) : Int) = ((x.toNat ^^^ 92 : Nat) : Int) := e
      omega
    have e3 := congrArg (x.toNat ^^^ ·) e2
    simp [← Nat.xor_assoc] at e3
/-- The loop of the document's function. -/
def RT (blk : List Int) (wk : World) (v7 v8 i : Value) (wr : World) : Prop :=
  ∃ k : Nat, k ≤ 64 ∧ i = .int .i64 k ∧ Own wr wk.heap.size v7 k ((blk.take k).map (xorI 54)) ∧ Own wr wk.heap.size v8 k ((blk.take k).map (xorI 92)) ∧ Apart v7 v8 ∧ (k = 0 → v8 = .slice none 0 0) ∧ Below wk.heap.size wk wr

set_option maxRecDepth 100000 in
set_option maxHeartbeats 2000000 in
theorem rtag_any (a : Option Addr) (m cap : Nat) (ks : List Int) (a' : Option Addr) (m' cap' : Nat) (bs : List Int) (w : World) (hk : Row w a m ks) (hr : Row w a' m' bs) (hcap : m ≤ cap) (hcap' : m' ≤ cap') (hm : m ≤ 1000000) (hm' : m' ≤ 900000) :
    Calls Tryd.prog 18 #[.slice a m cap, .slice a' m' cap'] w fun e w' => e = .returned (.agg (nums (tagI ks bs)).toArray) ∧ Below w.heap.size w w' := by
  have hz2 := zero24_run
  have hmk : ∀ w : World, (Instr.makeSlice 22 (.int .i64 64) (.int .i64 64)).run Tryd.prog w = .ok (.slice (some ⟨w.heap.size, 0, none⟩) 64 64) (w.alloc (.cells (zeroBytes 64) 5)) := make_bytes .i64 .i64 64 64 (by omega) (by omega)
  have hz64 : zeroBytes 64 = zero30 := rfl
  rw [hz64] at hmk
  have hba : Below w.heap.size w ((w.alloc (.cells zero24 23)).alloc (.cells zero30 5)) := ((Below.refl _ _).alloc (Nat.le_refl _) _).alloc (by simp) _
  have hA := (has_new w 23 zero24).more (.cells zero30 5)
  have hB : Has ((w.alloc (.cells zero24 23)).alloc (.cells zero30 5)) (w.heap.size + 1) 5 zero30 := by simpa using has_new (w.alloc (.cells zero24 23)) 5 zero30
  have hbl := Lib.hid (blk_len ks)
  have hbb := byt_blk' hk.2.1
  have hbz := hr.2.1
  have hlz := Lib.hid hr.1
  have htag : ∀ d, shaI ((blkI ks).map (xorI 54) ++ bs) = d → shaI ((blkI ks).map (xorI 92) ++ d) = tagI ks bs := by rintro d rfl; rfl
  have HTAG := Lib.hid htag
  clear htag hz64
  have hr2 := row_below hba hk
  by_cases h64 : m ≤ 64
  · have hik : ¬ (64 : Int) < (m : Int) := by omega
    have hkey : keyI ks = ks := by unfold keyI; rw [if_neg (by rw [hk.1]; omega)]
    have hcells := Lib.hid (show (zero30.toList.take 0 ++ (nums (ks.take m) ++ zero30.toList.drop (0 + m))).toArray = (nums (blkI ks)).toArray by
      have := blk_cells ks (by rw [hk.1]; omega)
      rw [hk.1] at this
      rw [this, blkI, hkey, hk.1])
    clear hkey
    have hA1 : Has (((w.alloc (.cells zero24 23)).alloc (.cells zero30 5)).setRow (w.heap.size + 1) (nums (blkI ks)).toArray) w.heap.size 23 zero24 := (setRow_other ((w.alloc (.cells zero24 23)).alloc (.cells zero30 5)) (w.heap.size + 1) w.heap.size (nums (blkI ks)).toArray (by omega)).trans hA
    have hB1 : Has (((w.alloc (.cells zero24 23)).alloc (.cells zero30 5)).setRow (w.heap.size + 1) (nums (blkI ks)).toArray) (w.heap.size + 1) 5 (nums (blkI ks)).toArray := setRow_heap _ _ _ (nums (blkI ks)).toArray _ _ hB
    have hb1 := below_setRow hba (show w.heap.size ≤ w.heap.size + 1 by omega) (nums (blkI ks)).toArray
    go_enter Tryd.func18, Tryd.ntmps18
    go_wp2_with (with_reducible refine wpList_cp rfl _ _ rfl m (w.heap.size + 1) 0 64 64 rfl _ _ _ rfl ks hr2 (Nat.min_eq_left h64) zero30 5 hB (by rw [zero30_size]; omega) ?_; rw [hcells.out])
    obtain ⟨g, hgE⟩ : ∃ g, g = w.heap.size + 1 := ⟨_, rfl⟩
    rw [← hgE] at hA1 hB1 hb1 ⊢
    generalize ((w.alloc (.cells zero24 23)).alloc (.cells zero30 5)).setRow g (nums (blkI ks)).toArray = wk at *
    clear hA hB hba hr2 hcells hmk hgE
    generalize blkI ks = blk at *
    have hgw : g < wk.heap.size := hB1.size
    have hp0 : RT blk wk (.slice none 0 0) (.slice none 0 0) (.int .i64 0) wk := ⟨0, by omega, rfl, own_nil _ _, own_nil _ _, apart_nil _, fun _ => rfl, Below.refl _ _⟩
    go_loopw [7, 8, 9] (fun v7 v8 i wr => RT blk wk v7 v8 i wr) (fun _ _ i _ => 64 - (intOf i).toNat)
    case atStart => exact hp0
    case round =>
      clear hp0
      obtain ⟨k, hkk, rfl, ho7, ho8, hap, hnil, hbw⟩ := hrel
      by_cases hlt : k < 64
      · have i3 : (k : Int) < 64 := by omega
        have i4 : (0 : Int) ≤ (k : Int) := by omega
        have hlb := Lib.hid (show k < blk.length by rw [hbl.out]; exact hlt)
        have hxk := byt_at hbb k
        have hx7 := xor_byt hxk (show (0 : Int) ≤ 54 ∧ (54 : Int) ≤ 255 by omega)
        have hx8 := xor_byt hxk (show (0 : Int) ≤ 92 ∧ (92 : Int) ≤ 255 by omega)
        have hge : ∀ W, Below wk.heap.size wk W → W.cell? ⟨g, k, none⟩ = some (.int .u8 (blk.getD k 0)) := fun W hW => by
          rw [(hB1.below hW hgw).at]
          simp only [nums, List.getElem?_toArray, List.getElem?_map, List.getD_eq_getElem?_getD]
          rw [List.getElem?_eq_getElem hlb.out]
          rfl
        have HGE := Lib.hid hge
        have q1 := hge wr hbw
        clear hge
        have n7 := Lib.hid (xor_next 54 blk k hlb.out)
        have n8 := Lib.hid (xor_next 92 blk k hlb.out)
        have hfirst := Lib.hid (fun j hj => xor_first blk (k + 1) j (by have := hlb.out; omega) (by omega) hj hbb)
        generalize blk.getD k 0 = x at *
        have a7 := ho7.kept ((Below.refl _ wr).alloc (Nat.le_refl _) (.cells #[.int .u8 (bits .xor .u8 x 54)] 5))
        have r7 := own_one wr _ hx7
        have b7 := hbw.alloc hbw.size (.cells #[.int .u8 (bits .xor .u8 x 54)] 5)
        have s7 : wk.heap.size ≤ (wr.alloc (.cells #[.int .u8 (bits .xor .u8 x 54)] 5)).heap.size := b7.size
        go_wp2_with (first
          | (at_builtin; refine wpList_app rfl _ _ rfl wk.heap.size _ _ _ rfl a8 _ _ _ _ rfl r8 (fun h => by cases h) (by omega) s8 ?_; intro v8' w2 o8 g8)
          | (at_builtin; refine wpList_app rfl _ _ rfl wk.heap.size _ _ _ rfl a7 _ _ _ _ rfl r7 (fun h => by cases h) (by omega) s7 ?_; intro v7' w1 o7 g7; have c7 := below_own b7 a7 g7 (Nat.le_refl _) s7; have q2 := HGE.out w1 c7; have k8 := (ho8.kept ((Below.refl _ wr).alloc (Nat.le_refl _) (.cells #[.int .u8 (bits .xor .u8 x 54)] 5))).keep hap g7; have a8 := k8.kept ((Below.refl _ w1).alloc (Nat.le_refl _) (.cells #[.int .u8 (bits .xor .u8 x 92)] 5)); have r8 := own_one w1 _ hx8; have b8 := c7.alloc c7.size (.cells #[.int .u8 (bits .xor .u8 x 92)] 5); have s8 : wk.heap.size ≤ (w1.alloc (.cells #[.int .u8 (bits .xor .u8 x 92)] 5)).heap.size := b8.size))
        go_roundw
        case rel =>
          rw [n7.out] at o7
          rw [n8.out] at o8
          have hap1 : Apart v7' _ := if h0 : k = 0 then by rw [hnil h0]; exact apart_nil _ else apart_of o7 k8 (by omega) (by omega) (hfirst.out k (by omega))
          have o7a := (o7.kept ((Below.refl _ w1).alloc (Nat.le_refl _) (.cells #[.int .u8 (bits .xor .u8 x 92)] 5))).keep hap1.symm g8
          exact ⟨k + 1, by omega, by go_num, o7a, o8, apart_of o7a o8 (by omega) (by omega) (hfirst.out (k + 1) (by omega)), fun h => by omega, below_own b8 a8 g8 (Nat.le_refl _) s8⟩
        case measure => simp [intOf]; omega
      · have h64' : k = 64 := by omega
        subst h64'
        rw [List.take_of_length_le (by rw [hbl.out]; omega)] at ho7 ho8
        clear hnil hkk
        have hbo := byt_xor (p := 92) (by omega) hbb
        have hbi := byt_xor (p := 54) (by omega) hbb
        have hbT := hb1.trans (hbw.mono hb1.size)
        have hrT := row_below hbT hr
        have hAT := hA1.below hbw (show w.heap.size < wk.heap.size from hA1.size)
        have hlA := hA1.size
        have hsT := hbw.size
        generalize blk.map (xorI 54) = X at *
        generalize blk.map (xorI 92) = Y at *
        go_wp2_with (at_builtin; refine wpList_app rfl _ _ rfl wk.heap.size _ _ _ rfl ho7 _ _ _ _ rfl hrT (row_none hrT) (by omega) hsT ?_; intro v3 w3 o3 g3)
        have k8 := ho8.keep hap g3
        have b3 := below_own hbw ho7 g3 (Nat.le_refl _) hsT
        have hA3 := hAT.grown g3 ho7.block hlA
        obtain ⟨A3, c3, rfl, hc3, hr3, hk3⟩ := o3.form
        refine (rsha_any A3 (64 + m') c3 (X ++ bs) _ hr3 hc3 (by omega)).mono ?_
        rintro e w4 ⟨rfl, H4⟩
        have htq := HTAG.out _ rfl
        have hsl := Lib.hid (sha_len (X ++ bs))
        have hbd := byt_sha (byt_app hbi hbz)
        generalize shaI (X ++ bs) = dig at *
        have b4 := b3.trans (H4.mono b3.size)
        have k4 := (k8.kept H4).kept ((Below.refl _ w4).alloc (Nat.le_refl _) (.cells zero24 23))
        have hA4 := (hA3.kept H4).more (.cells zero24 23)
        have hne := has_new w4 23 zero24
        have b5 := b4.alloc b4.size (.cells zero24 23)
        have hlA4 : w.heap.size < w4.heap.size := (hA3.kept H4).size
        clear o3 g3 hr3 hk3 hA3 k8 ho7 ho8 hap hAT hrT H4 b3 HTAG
        have HTQ := Lib.hid htq
        clear htq
        go_wp2_with (first
          | (at_builtin; refine wpList_app rfl _ _ rfl wk.heap.size _ _ _ rfl k6 _ _ _ _ rfl r6 (fun h => by cases h) (by omega) s6 ?_; intro v7 w7 o7 g7)
          | (refine wpList_row rfl 23 _ _ rfl w4.heap.size (nums dig).toArray rfl rfl 23 _ hne (size24 hsl.out) (by rw [zero24_size, List.size_toArray, nums_len, hsl.out]) (nums_all _) ?_; intro w6 hs6 hon6; have b6 := below_only b5 hon6 b4.size b5.size; have hA6 : Has w6 w.heap.size 23 zero24 := (hon6.block _ hA4.size (by intro e; injection e; omega)).trans hA4; have k6 := k4.only hon6 hne (by decide); have r6 := has_row hs6 hsl.out hbd; have s6 : wk.heap.size ≤ w6.heap.size := b6.size))
        have b7 := below_own b6 k6 g7 (Nat.le_refl _) s6
        have hA7 := hA6.grown g7 k6.block hlA
        obtain ⟨A7, c7, rfl, hc7, hr7, hk7⟩ := o7.form
        clear hA4 hne k4 b5 hon6 hs6 r6 k6 g7 o7 hk7
        refine (rsha_any A7 (64 + 32) c7 (Y ++ dig) _ hr7 hc7 (by omega)).mono ?_
        rintro e w8 ⟨rfl, H8⟩
        have htl := Lib.hid (sha_len (Y ++ dig))
        generalize shaI (Y ++ dig) = tag at *
        have hA8 := hA7.kept H8
        have b8 := hb1.trans ((b7.trans (H8.mono b7.size)).mono hb1.size)
        clear hA7 hr7 hc7 H8
        go_wp2_with (refine wpList_store_row rfl 23 _ _ rfl w.heap.size (nums tag).toArray rfl rfl 23 _ hA8 (size24 htl.out) (by rw [zero24_size, List.size_toArray, nums_len, htl.out]) (nums_all _) ?_)
        exact bodyPost_ret (results_cell_row rfl _ _ w.heap.size 23 (nums tag).toArray (0, 0) _ rfl (setRow_heap _ _ _ _ _ _ hA8) Tryd.underlying23 rfl (size24 htl.out)) rfl ⟨by rw [HTQ.out], below_setRow b8 (Nat.le_refl _) _⟩
  · have hik : (64 : Int) < (m : Int) := by omega
    have hkey : keyI ks = shaI ks := by unfold keyI; rw [if_pos (by rw [hk.1]; omega)]
    have hcells := Lib.hid (show (zero30.toList.take 0 ++ (nums ((shaI ks).take 32) ++ zero30.toList.drop (0 + 32))).toArray = (nums (blkI ks)).toArray by
      have := blk_cells (shaI ks) (by rw [sha_len]; omega)
      rw [sha_len] at this
      rw [this, blkI, hkey, sha_len])
    clear hkey
    have hbs := byt_sha hk.2.1
    have hsl0 := Lib.hid (sha_len ks)
    have hfull : ∃ cells : Array Value, cells = (zero30.toList.take 0 ++ (nums (ks.take 64) ++ zero30.toList.drop (0 + 64))).toArray := ⟨_, rfl⟩
    obtain ⟨old, hold⟩ := hfull
    have HOLD := Lib.hid hold
    clear hold
    have hAo : Has (((w.alloc (.cells zero24 23)).alloc (.cells zero30 5)).setRow (w.heap.size + 1) old) w.heap.size 23 zero24 := (setRow_other ((w.alloc (.cells zero24 23)).alloc (.cells zero30 5)) (w.heap.size + 1) w.heap.size old (by omega)).trans hA
    have hbo := below_setRow hba (show w.heap.size ≤ w.heap.size + 1 by omega) old
    go_enter Tryd.func18, Tryd.ntmps18
    go_wp2_with (with_reducible refine wpList_cp rfl _ _ rfl 64 (w.heap.size + 1) 0 64 64 rfl _ _ _ rfl ks hr2 (Nat.min_eq_right (by omega)) zero30 5 hB (by rw [zero30_size]; omega) ?_; rw [← HOLD.out])
    generalize ((w.alloc (.cells zero24 23)).alloc (.cells zero30 5)).setRow (w.heap.size + 1) old = wo at *
    clear hA hB hba hr2 HOLD
    refine (rsha_any a m cap ks _ (row_below hbo hk) hcap (by omega)).mono ?_
    rintro e w3 ⟨rfl, H3⟩
    have hb3 := hbo.trans (H3.mono hbo.size)
    have hA3 := (hAo.kept H3).more (.cells zero24 23)
    have hlt := (hAo.kept H3).size
    have hne := has_new w3 23 zero24
    have hb4 := hb3.alloc hb3.size (.cells zero24 23)
    clear hAo hbo H3
    generalize shaI ks = dg at *
    go_wp2_with (first
      | (with_reducible refine wpList_cp rfl _ _ rfl 32 w5.heap.size 0 64 64 rfl _ _ _ rfl dg hr6 rfl zero30 5 hB6 (by rw [zero30_size]; omega) ?_; rw [hcells.out])
      | (refine wpList_row rfl 23 _ _ rfl w3.heap.size (nums dg).toArray rfl rfl 23 _ hne (size24 hsl0.out) (by rw [zero24_size, List.size_toArray, nums_len, hsl0.out]) (nums_all _) ?_; intro w5 hs5 hon5; have hb5 := below_only hb4 hon5 hb3.size hb4.size; have hA5 : Has w5 w.heap.size 23 zero24 := (hon5.block _ hA3.size (by intro e; injection e; omega)).trans hA3; have hA6 := hA5.more (.cells zero30 5); have hB6 := has_new w5 5 zero30; have hr6 : Row (w5.alloc (.cells zero30 5)) (some ⟨w3.heap.size, 0, none⟩) 32 dg := has_row (hs5.more _) hsl0.out hbs; have hb6 := hb5.alloc hb5.size (.cells zero30 5)))
    have hA1 : Has ((w5.alloc (.cells zero30 5)).setRow w5.heap.size (nums (blkI ks)).toArray) w.heap.size 23 zero24 := (setRow_other (w5.alloc (.cells zero30 5)) w5.heap.size w.heap.size (nums (blkI ks)).toArray (by have := hA5.size; omega)).trans hA6
    have hB1 : Has ((w5.alloc (.cells zero30 5)).setRow w5.heap.size (nums (blkI ks)).toArray) w5.heap.size 5 (nums (blkI ks)).toArray := setRow_heap _ _ _ (nums (blkI ks)).toArray _ _ hB6
    have hb1 := below_setRow hb6 hb5.size (nums (blkI ks)).toArray
    clear hA6 hB6 hb6 hr6 hA3 hb3 hne hb4 hon5 hs5 hA5
    obtain ⟨g, hgE⟩ : ∃ g, g = w5.heap.size := ⟨_, rfl⟩
    rw [← hgE] at hA1 hB1 hb1 ⊢
    generalize (w5.alloc (.cells zero30 5)).setRow g (nums (blkI ks)).toArray = wk at *
    clear hcells hmk hgE hb5
    generalize blkI ks = blk at *
    have hgw : g < wk.heap.size := hB1.size
    have hp0 : RT blk wk (.slice none 0 0) (.slice none 0 0) (.int .i64 0) wk := ⟨0, by omega, rfl, own_nil _ _, own_nil _ _, apart_nil _, fun _ => rfl, Below.refl _ _⟩
    go_loopw [7, 8, 9] (fun v7 v8 i wr => RT blk wk v7 v8 i wr) (fun _ _ i _ => 64 - (intOf i).toNat)
    case atStart => exact hp0
    case round =>
      clear hp0
      obtain ⟨k, hkk, rfl, ho7, ho8, hap, hnil, hbw⟩ := hrel
      by_cases hlt : k < 64
      · have i3 : (k : Int) < 64 := by omega
        have i4 : (0 : Int) ≤ (k : Int) := by omega
        have hlb := Lib.hid (show k < blk.length by rw [hbl.out]; exact hlt)
        have hxk := byt_at hbb k
        have hx7 := xor_byt hxk (show (0 : Int) ≤ 54 ∧ (54 : Int) ≤ 255 by omega)
        have hx8 := xor_byt hxk (show (0 : Int) ≤ 92 ∧ (92 : Int) ≤ 255 by omega)
        have hge : ∀ W, Below wk.heap.size wk W → W.cell? ⟨g, k, none⟩ = some (.int .u8 (blk.getD k 0)) := fun W hW => by
          rw [(hB1.below hW hgw).at]
          simp only [nums, List.getElem?_toArray, List.getElem?_map, List.getD_eq_getElem?_getD]
          rw [List.getElem?_eq_getElem hlb.out]
          rfl
        have HGE := Lib.hid hge
        have q1 := hge wr hbw
        clear hge
        have n7 := Lib.hid (xor_next 54 blk k hlb.out)
        have n8 := Lib.hid (xor_next 92 blk k hlb.out)
        have hfirst := Lib.hid (fun j hj => xor_first blk (k + 1) j (by have := hlb.out; omega) (by omega) hj hbb)
        generalize blk.getD k 0 = x at *
        have a7 := ho7.kept ((Below.refl _ wr).alloc (Nat.le_refl _) (.cells #[.int .u8 (bits .xor .u8 x 54)] 5))
        have r7 := own_one wr _ hx7
        have b7 := hbw.alloc hbw.size (.cells #[.int .u8 (bits .xor .u8 x 54)] 5)
        have s7 : wk.heap.size ≤ (wr.alloc (.cells #[.int .u8 (bits .xor .u8 x 54)] 5)).heap.size := b7.size
        go_wp2_with (first
          | (at_builtin; refine wpList_app rfl _ _ rfl wk.heap.size _ _ _ rfl a8 _ _ _ _ rfl r8 (fun h => by cases h) (by omega) s8 ?_; intro v8' w2 o8 g8)
          | (at_builtin; refine wpList_app rfl _ _ rfl wk.heap.size _ _ _ rfl a7 _ _ _ _ rfl r7 (fun h => by cases h) (by omega) s7 ?_; intro v7' w1 o7 g7; have c7 := below_own b7 a7 g7 (Nat.le_refl _) s7; have q2 := HGE.out w1 c7; have k8 := (ho8.kept ((Below.refl _ wr).alloc (Nat.le_refl _) (.cells #[.int .u8 (bits .xor .u8 x 54)] 5))).keep hap g7; have a8 := k8.kept ((Below.refl _ w1).alloc (Nat.le_refl _) (.cells #[.int .u8 (bits .xor .u8 x 92)] 5)); have r8 := own_one w1 _ hx8; have b8 := c7.alloc c7.size (.cells #[.int .u8 (bits .xor .u8 x 92)] 5); have s8 : wk.heap.size ≤ (w1.alloc (.cells #[.int .u8 (bits .xor .u8 x 92)] 5)).heap.size := b8.size))
        go_roundw
        case rel =>
          rw [n7.out] at o7
          rw [n8.out] at o8
          have hap1 : Apart v7' _ := if h0 : k = 0 then by rw [hnil h0]; exact apart_nil _ else apart_of o7 k8 (by omega) (by omega) (hfirst.out k (by omega))
          have o7a := (o7.kept ((Below.refl _ w1).alloc (Nat.le_refl _) (.cells #[.int .u8 (bits .xor .u8 x 92)] 5))).keep hap1.symm g8
          exact ⟨k + 1, by omega, by go_num, o7a, o8, apart_of o7a o8 (by omega) (by omega) (hfirst.out (k + 1) (by omega)), fun h => by omega, below_own b8 a8 g8 (Nat.le_refl _) s8⟩
        case measure => simp [intOf]; omega
      · have h64' : k = 64 := by omega
        subst h64'
        rw [List.take_of_length_le (by rw [hbl.out]; omega)] at ho7 ho8
        clear hnil hkk
        have hbo := byt_xor (p := 92) (by omega) hbb
        have hbi := byt_xor (p := 54) (by omega) hbb
        have hbT := hb1.trans (hbw.mono hb1.size)
        have hrT := row_below hbT hr
        have hAT := hA1.below hbw (show w.heap.size < wk.heap.size from hA1.size)
        have hlA := hA1.size
        have hsT := hbw.size
        generalize blk.map (xorI 54) = X at *
        generalize blk.map (xorI 92) = Y at *
        go_wp2_with (at_builtin; refine wpList_app rfl _ _ rfl wk.heap.size _ _ _ rfl ho7 _ _ _ _ rfl hrT (row_none hrT) (by omega) hsT ?_; intro v3 w3 o3 g3)
        have k8 := ho8.keep hap g3
        have b3 := below_own hbw ho7 g3 (Nat.le_refl _) hsT
        have hA3 := hAT.grown g3 ho7.block hlA
        obtain ⟨A3, c3, rfl, hc3, hr3, hk3⟩ := o3.form
        refine (rsha_any A3 (64 + m') c3 (X ++ bs) _ hr3 hc3 (by omega)).mono ?_
        rintro e w4 ⟨rfl, H4⟩
        have htq := HTAG.out _ rfl
        have hsl := Lib.hid (sha_len (X ++ bs))
        have hbd := byt_sha (byt_app hbi hbz)
        generalize shaI (X ++ bs) = dig at *
        have b4 := b3.trans (H4.mono b3.size)
        have k4 := (k8.kept H4).kept ((Below.refl _ w4).alloc (Nat.le_refl _) (.cells zero24 23))
        have hA4 := (hA3.kept H4).more (.cells zero24 23)
        have hne := has_new w4 23 zero24
        have b5 := b4.alloc b4.size (.cells zero24 23)
        have hlA4 : w.heap.size < w4.heap.size := (hA3.kept H4).size
        clear o3 g3 hr3 hk3 hA3 k8 ho7 ho8 hap hAT hrT H4 b3 HTAG
        have HTQ := Lib.hid htq
        clear htq
        go_wp2_with (first
          | (at_builtin; refine wpList_app rfl _ _ rfl wk.heap.size _ _ _ rfl k6 _ _ _ _ rfl r6 (fun h => by cases h) (by omega) s6 ?_; intro v7 w7 o7 g7)
          | (refine wpList_row rfl 23 _ _ rfl w4.heap.size (nums dig).toArray rfl rfl 23 _ hne (size24 hsl.out) (by rw [zero24_size, List.size_toArray, nums_len, hsl.out]) (nums_all _) ?_; intro w6 hs6 hon6; have b6 := below_only b5 hon6 b4.size b5.size; have hA6 : Has w6 w.heap.size 23 zero24 := (hon6.block _ hA4.size (by intro e; injection e; omega)).trans hA4; have k6 := k4.only hon6 hne (by decide); have r6 := has_row hs6 hsl.out hbd; have s6 : wk.heap.size ≤ w6.heap.size := b6.size))
        have b7 := below_own b6 k6 g7 (Nat.le_refl _) s6
        have hA7 := hA6.grown g7 k6.block hlA
        obtain ⟨A7, c7, rfl, hc7, hr7, hk7⟩ := o7.form
        clear hA4 hne k4 b5 hon6 hs6 r6 k6 g7 o7 hk7
        refine (rsha_any A7 (64 + 32) c7 (Y ++ dig) _ hr7 hc7 (by omega)).mono ?_
        rintro e w8 ⟨rfl, H8⟩
        have htl := Lib.hid (sha_len (Y ++ dig))
        generalize shaI (Y ++ dig) = tag at *
        have hA8 := hA7.kept H8
        have b8 := hb1.trans ((b7.trans (H8.mono b7.size)).mono hb1.size)
        clear hA7 hr7 hc7 H8
        go_wp2_with (refine wpList_store_row rfl 23 _ _ rfl w.heap.size (nums tag).toArray rfl rfl 23 _ hA8 (size24 htl.out) (by rw [zero24_size, List.size_toArray, nums_len, htl.out]) (nums_all _) ?_)
        exact bodyPost_ret (results_cell_row rfl _ _ w.heap.size 23 (nums tag).toArray (0, 0) _ rfl (setRow_heap _ _ _ _ _ _ hA8) Tryd.underlying23 rfl (size24 htl.out)) rfl ⟨by rw [HTQ.out], below_setRow b8 (Nat.le_refl _) _⟩
end Go.Proofs.YtjfalnhmmofdfaaDoor.Sha
