/-
  The key's block, and a hash that begins with it, as the program makes them; conditions: the key reads as a row of bytes, the tables lie as they were laid.
-/
import Derived.Test.YtjfalnhmmofdfaaDoorShaKey
import Derived.Test.YtjfalnhmmofdfaaDoorShaSum
namespace Go.Proofs.YtjfalnhmmofdfaaDoor.Sha
open Go.RowKit
set_option linter.unusedVariables false
set_option linter.unusedSimpArgs false

theorem byt_sha {bs : List Int} (h : Byt bs) : Byt (shaI bs) := by
  unfold shaI sumI
  exact byt32 (run_ok (run_ok st0_ok h) (byt_app (run_byt st0_ok h) (byt_last _)))
theorem byt_blk' {ks : List Int} (h : Byt ks) : Byt (blkI ks) := byt_blk h (fun _ => byt_sha)
theorem byt_keyed {ks : List Int} (h : Byt ks) {p : Int} (hp : 0 ≤ p ∧ p ≤ 255) : Byt (keyed p ks) := byt_xor hp (byt_blk' h)

def zero30 : Array Value := (nums (List.replicate 64 0)).toArray
theorem zero30_run : ∀ w : World, (zeroValue 81).run Tryd.prog w = .ok (.agg zero30) w := (zero_of_info (P := Tryd.prog) (t := 81) (n := 64) (by kernel_rfl)).1
theorem zero30_size : zero30.size = 64 := by simp [zero30, nums]
theorem size30 {zs : List Int} (h : zs.length = 64) : (Tryd.prog.info? 81).map (·.size) = some (nums zs).toArray.size := by
  rw [List.size_toArray, nums_len, h]; kernel_rfl
theorem has_row {w : World} {g n : Nat} {t : TypeId} {zs : List Int} (h : Has w g t (nums zs).toArray) (hl : zs.length = n) (hb : Byt zs) : Row w (some ⟨g, 0, none⟩) n zs := row_mk hl hb h.size (fun j hj => by
  rw [h.at, Nat.zero_add]
  simp only [nums, List.getElem?_toArray, List.getElem?_map, List.getD_eq_getElem?_getD]
  rw [List.getElem?_eq_getElem (by omega)]
  rfl)
/-- The key, copied over bytes 0. -/
theorem blk_cells (ks : List Int) (h : ks.length ≤ 64) : (zero30.toList.take 0 ++ (nums (ks.take ks.length) ++ zero30.toList.drop (0 + ks.length))).toArray = (nums (ks ++ List.replicate (64 - ks.length) 0)).toArray := by
  rw [List.take_zero, List.nil_append, List.take_length, Nat.zero_add, zero30, ← nums_app]
  congr 2
  show (nums (List.replicate 64 0)).drop ks.length = nums (List.replicate (64 - ks.length) 0)
  rw [nums, List.map_replicate, List.drop_replicate, nums, List.map_replicate]

set_option maxRecDepth 100000 in
set_option maxHeartbeats 1000000 in
theorem keyblk_any (a : Option Addr) (m cap : Nat) (zs : List Int) (w : World) (hr : Row w a m zs) (hcap : m ≤ cap) (ht : Tabs w) (hm : m < 1099511627776) :
    Calls Tryd.prog 49 #[.slice a m cap] w fun e w' => e = .returned (.agg (nums (blkI zs)).toArray) ∧ Below w.heap.size w w' := by
  have hz := zero30_run
  have hz2 := zero24_run
  have hba : Below w.heap.size w ((w.alloc (.cells zero30 81)).alloc (.cells zero30 81)) := ((Below.refl _ _).alloc (Nat.le_refl _) _).alloc (by simp) _
  have hA := (has_new w 81 zero30).more (.cells zero30 81)
  have hB : Has ((w.alloc (.cells zero30 81)).alloc (.cells zero30 81)) (w.heap.size + 1) 81 zero30 := by simpa using has_new (w.alloc (.cells zero30 81)) 81 zero30
  have hbl := Lib.hid (blk_len zs)
  by_cases h64 : m ≤ 64
  · have hik : ¬ (64 : Int) < (m : Int) := by omega
    have hr2 := row_below hba hr
    have hkey : keyI zs = zs := by unfold keyI; rw [if_neg (by rw [hr.1]; omega)]
    have hcells := Lib.hid (show (zero30.toList.take 0 ++ (nums (zs.take m) ++ zero30.toList.drop (0 + m))).toArray = (nums (blkI zs)).toArray by
      have := blk_cells zs (by rw [hr.1]; omega)
      rw [hr.1] at this
      rw [this, blkI, hkey, hr.1])
    have hon1 := setRow_other ((w.alloc (.cells zero30 81)).alloc (.cells zero30 81)) (w.heap.size + 1) w.heap.size (nums (blkI zs)).toArray (by omega)
    have hA1 : Has (((w.alloc (.cells zero30 81)).alloc (.cells zero30 81)).setRow (w.heap.size + 1) (nums (blkI zs)).toArray) w.heap.size 81 zero30 := hon1.trans hA
    have hB1 := setRow_heap _ _ _ (nums (blkI zs)).toArray _ _ hB
    have hb1 := below_setRow hba (show w.heap.size ≤ w.heap.size + 1 by omega) (nums (blkI zs)).toArray
    go_enter Tryd.func49, Tryd.ntmps49
    go_wp2_with (first
      | (with_reducible refine wpList_cp rfl _ _ rfl m (w.heap.size + 1) 0 64 64 rfl _ _ _ rfl zs hr2 (Nat.min_eq_left h64) zero30 81 hB (by rw [zero30_size]; omega) ?_; rw [hcells.out])
      | (refine wpList_load_row rfl 81 _ rfl (w.heap.size + 1) rfl 81 _ (0, 0) _ hB1 Tryd.underlying81 rfl (size30 hbl.out) ?_)
      | (refine wpList_store_row rfl 81 _ _ rfl w.heap.size (nums (blkI zs)).toArray rfl rfl 81 _ hA1 (size30 hbl.out) (by rw [zero30_size, List.size_toArray, nums_len, hbl.out]) (nums_all _) ?_))
    exact bodyPost_ret (results_cell_row rfl _ _ w.heap.size 81 (nums (blkI zs)).toArray (0, 0) _ rfl (setRow_heap _ _ _ _ _ _ hA1) Tryd.underlying81 rfl (size30 hbl.out)) rfl ⟨rfl, below_setRow hb1 (Nat.le_refl _) _⟩
  · have hik : (64 : Int) < (m : Int) := by omega
    have hr2 := row_below hba hr
    have ht2 := ht.kept hba
    have hkey : keyI zs = shaI zs := by unfold keyI; rw [if_pos (by rw [hr.1]; omega)]
    have hcells := Lib.hid (show (zero30.toList.take 0 ++ (nums ((shaI zs).take 32) ++ zero30.toList.drop (0 + 32))).toArray = (nums (blkI zs)).toArray by
      have := blk_cells (shaI zs) (by rw [sha_len]; omega)
      rw [sha_len] at this
      rw [this, blkI, hkey, sha_len])
    have hbs := byt_sha hr.2.1
    have hsl := Lib.hid (sha_len zs)
    go_enter Tryd.func49, Tryd.ntmps49
    go_wp2_with fail
    refine (shaSum_any a m cap zs _ hr2 hcap ht2 hm).mono ?_
    rintro e w3 ⟨rfl, H3⟩
    have hb3 := hba.trans (H3.mono hba.size)
    have hA3 := (hA.kept H3).more (.cells zero24 23)
    have hB3 := (hB.kept H3).more (.cells zero24 23)
    have hlt := (hB.kept H3).size
    have hne := has_new w3 23 zero24
    have hb4 := hb3.alloc hb3.size (.cells zero24 23)
    clear hA hB hba hr2 ht2
    generalize shaI zs = dig at *
    go_wp2_with (first
      | (refine wpList_row rfl 23 _ _ rfl w3.heap.size (nums dig).toArray rfl rfl 23 _ hne (size24 hsl.out) (by rw [zero24_size, List.size_toArray, nums_len, hsl.out]) (nums_all _) ?_; intro w5 hs5 hon5; have hb5 := below_only hb4 hon5 hb3.size hb4.size; have hA5 : Has w5 w.heap.size 81 zero30 := (hon5.block _ hA3.size (by intro e; injection e; omega)).trans hA3; have hB5 : Has w5 (w.heap.size + 1) 81 zero30 := (hon5.block _ hB3.size (by intro e; injection e; omega)).trans hB3; have hr5 : Row w5 (some ⟨w3.heap.size, 0, none⟩) 32 dig := has_row hs5 hsl.out hbs; have hA6 : Has (w5.setRow (w.heap.size + 1) (nums (blkI zs)).toArray) w.heap.size 81 zero30 := (setRow_other w5 (w.heap.size + 1) w.heap.size (nums (blkI zs)).toArray (by omega)).trans hA5; have hB6 := setRow_heap _ _ _ (nums (blkI zs)).toArray _ _ hB5; have hb6 := below_setRow hb5 (show w.heap.size ≤ w.heap.size + 1 by omega) (nums (blkI zs)).toArray)
      | (with_reducible refine wpList_cp rfl _ _ rfl 32 (w.heap.size + 1) 0 64 64 rfl _ _ _ rfl dig hr5 rfl zero30 81 hB5 (by rw [zero30_size]; omega) ?_; rw [hcells.out])
      | (refine wpList_load_row rfl 81 _ rfl (w.heap.size + 1) rfl 81 _ (0, 0) _ hB6 Tryd.underlying81 rfl (size30 hbl.out) ?_)
      | (refine wpList_store_row rfl 81 _ _ rfl w.heap.size (nums (blkI zs)).toArray rfl rfl 81 _ hA6 (size30 hbl.out) (by rw [zero30_size, List.size_toArray, nums_len, hbl.out]) (nums_all _) ?_))
    exact bodyPost_ret (results_cell_row rfl _ _ w.heap.size 81 (nums (blkI zs)).toArray (0, 0) _ rfl (setRow_heap _ _ _ _ _ _ hA6) Tryd.underlying81 rfl (size30 hbl.out)) rfl ⟨rfl, below_setRow hb6 (Nat.le_refl _) _⟩

/-- The first k bytes turned. -/
def turnedI (p : Int) (bs : List Int) (k : Nat) : List Int := (bs.take k).map (xorI p) ++ bs.drop k
theorem turned_len (p : Int) (bs : List Int) (k : Nat) : (turnedI p bs k).length = bs.length := by
  rw [turnedI, List.length_append, List.length_map, List.length_take, List.length_drop]; omega
theorem turned_at (p : Int) (bs : List Int) (k : Nat) (h : k < bs.length) : (nums (turnedI p bs k)).toArray[k]? = some (.int .u8 (bs.getD k 0)) := by
  have e : (turnedI p bs k)[k]? = some (bs.getD k 0) := by
    rw [turnedI, List.getElem?_append_right (by simp; omega), List.length_map, List.length_take, Nat.min_eq_left (by omega), Nat.sub_self, List.getElem?_drop, Nat.add_zero, List.getElem?_eq_getElem h, List.getD_eq_getElem?_getD, List.getElem?_eq_getElem h]
    rfl
  rw [nums, List.getElem?_toArray, List.getElem?_map, e]
  rfl
theorem turned_put (p : Int) (bs : List Int) (k : Nat) (h : k < bs.length) : (nums (turnedI p bs k)).toArray.setIfInBounds k (.int .u8 (bits .xor .u8 (bs.getD k 0) p)) = (nums (turnedI p bs (k + 1))).toArray := by
  have e : (turnedI p bs k).set k (xorI p (bs.getD k 0)) = turnedI p bs (k + 1) := by
    unfold turnedI
    rw [List.set_append_right _ _ (by simp; omega), List.length_map, List.length_take, Nat.min_eq_left (by omega), Nat.sub_self, List.drop_eq_getElem_cons h, List.set_cons_zero, List.take_succ_eq_append_getElem h, List.map_append, List.append_assoc, List.getD_eq_getElem?_getD, List.getElem?_eq_getElem h]
    rfl
  rw [← e, List.setIfInBounds_toArray, nums, nums, List.map_set]
  rfl
theorem turned_all (p : Int) (bs : List Int) (k : Nat) (h : bs.length = k) : turnedI p bs k = bs.map (xorI p) := by
  rw [turnedI, List.take_of_length_le (by omega), List.drop_of_length_le (by omega), List.append_nil]

/-- A new stream that has folded these 64 bytes. -/
def Begun (X : List Int) (w : World) (e : Ending) (w' : World) : Prop :=
  ∃ (b : Nat) (bf : List Int), e = .returned (.pointer (some ⟨b, 0, none⟩)) ∧ w.heap.size ≤ b ∧ bf.length = 64 ∧ Byt bf ∧ (run st0 X).2 = [] ∧ Has w' b 99 (smCells (run st0 X).1 64 bf) ∧ Below w.heap.size w w'
set_option maxRecDepth 100000 in
set_option maxHeartbeats 1000000 in
theorem padded_any (bs : List Int) (p : Int) (w : World) (hl : bs.length = 64) (hb : Byt bs) (hp : 0 ≤ p ∧ p ≤ 255) (ht : Tabs w) :
    Calls Tryd.prog 50 #[.agg (nums bs).toArray, .int .u8 p] w (Begun (bs.map (xorI p)) w) := by
  have HL := Lib.hid hl
  clear hl
  have hstart : Has (w.alloc (.cells (nums bs).toArray 81)) w.heap.size 81 (nums (turnedI p bs 0)).toArray := has_new w 81 (nums bs).toArray
  have hb0 : Below w.heap.size w (w.alloc (.cells (nums bs).toArray 81)) := (Below.refl _ _).alloc (Nat.le_refl _) _
  go_enter Tryd.func50, Tryd.ntmps50
  go_wp2
  go_loopw [7] (fun i wr => ∃ k : Nat, k ≤ 64 ∧ i = .int .i64 k ∧ Has wr w.heap.size 81 (nums (turnedI p bs k)).toArray ∧ Below w.heap.size w wr) (fun i _ => 64 - (intOf i).toNat)
  case atStart => exact ⟨0, by omega, rfl, hstart, hb0⟩
  case round =>
    clear hstart hb0
    obtain ⟨k, hk, rfl, hg, hbw⟩ := hrel
    by_cases hlt : k < 64
    · have i3 : (k : Int) < 64 := by omega
      have i4 : (0 : Int) ≤ (k : Int) := by omega
      have qk : wr.cell? ⟨w.heap.size, k, none⟩ = some (.int .u8 (bs.getD k 0)) := (hg.at k).trans (turned_at p bs k (by have := HL.out; omega))
      have qf := hg.soft k
      have hput := hg.put k (.int .u8 (bits .xor .u8 (bs.getD k 0) p))
      rw [turned_put p bs k (by have := HL.out; omega)] at hput
      have hbp := hbw.setCell (p := ⟨w.heap.size, k, none⟩) (Nat.le_refl _) (.int .u8 (bits .xor .u8 (bs.getD k 0) p))
      clear hg
      go_wp2
      go_roundw
      case rel => exact ⟨k + 1, by omega, by go_num, hput, hbp⟩
      case measure => simp [intOf]; omega
    · have h8 : k = 64 := by omega
      subst h8
      rw [turned_all p bs 64 HL.out] at hg
      have hbx := byt_xor hp hb
      have hlx := Lib.hid (show (bs.map (xorI p)).length = 64 by rw [List.length_map, HL.out])
      generalize bs.map (xorI p) = X at *
      go_wp2_with fail
      refine (new_any _ (ht.kept hbw)).mono ?_
      rintro e w1 ⟨b, rfl, hbge, hs1, H1⟩
      have hg1 := hg.kept H1
      have hb1 := hbw.trans (H1.mono hbw.size)
      have hlt1 : w.heap.size < b := by have := hg.size; omega
      have ht1 := ht.kept hb1
      have h1b : 1 < b := by have := ht.1; omega
      go_wp2_with fail
      refine (write_any b 0 st0 noBytes (some ⟨w.heap.size, 0, none⟩) 64 64 X _ st0_ok no_len no_byt hs1 (has_row hg1 hlx.out hbx) (Nat.le_refl _) (fun _ x hx => by cases hx; simp; omega) ht1 h1b (by omega)).mono ?_
      rintro e w2 ⟨rfl, bf2, hl2, hbb2, htk2, hs2, hon2⟩
      have e0 : noBytes.take (0 % 64) ++ X = X := by simp
      rw [e0, hlx.out, Nat.zero_add] at hs2 htk2
      have HN := Lib.hid (show (run st0 X).2 = [] from htk2.symm)
      have HL2 := Lib.hid hl2
      clear htk2 hl2 e0
      have hb2 := below_only hb1 hon2 (show w.heap.size ≤ b by omega) hb1.size
      go_wp2
      go_ret
      exact ⟨b, bf2, rfl, by omega, HL2.out, hbb2, HN.out, hs2, hb2⟩
end Go.Proofs.YtjfalnhmmofdfaaDoor.Sha
