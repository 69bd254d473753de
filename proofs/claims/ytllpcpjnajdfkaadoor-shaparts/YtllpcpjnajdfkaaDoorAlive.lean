/-
  The document's own hash of bytes; the document's example holds: the call that every law makes first answers true; conditions: the tables lie as they were laid.
-/
import Derived.Test.YtllpcpjnajdfkaaDoorRs
import Derived.Lib.SlBytesConst
namespace Go.Proofs.YtllpcpjnajdfkaaDoor
open Go.RowKit
set_option linter.unusedVariables false
set_option linter.unusedSimpArgs false

set_option maxRecDepth 100000 in
set_option maxHeartbeats 1000000 in
theorem rsha_any (a : Option Addr) (m cap : Nat) (zs : List Int) (w : World) (hr : Row w a m zs) (hcap : m ≤ cap) (hm : m ≤ 1000000) :
    Calls Tryd.prog 9 #[.slice a m cap] w fun e w' => e = .returned (.agg (nums (shaI zs)).toArray) ∧ Below w.heap.size w w' := by
  have hz2 := zero24_run
  have hba : Below w.heap.size w (w.alloc (.cells zero24 24)) := (Below.refl _ _).alloc (Nat.le_refl _) _
  go_enter Tryd.func9, Tryd.ntmps9
  go_wp2_with fail
  refine (rnew_any _).mono ?_
  rintro e w1 ⟨b, rfl, hbge, hs1, H1⟩
  have hb1 := hba.trans (H1.mono hba.size)
  have hout : Has w1 w.heap.size 24 zero24 := (has_new w 24 zero24).kept H1
  have hlt : w.heap.size < b := by simp at hbge; omega
  go_wp2_with fail
  refine (rwrite_any b 0 st0 (.slice none 0 0) [] a m cap zs _ st0_ok hs1 (own_nil _ _) (row_below hb1 hr) hcap (row_off hr (by omega)) (by omega) (by simp; omega)).mono ?_
  rintro e w2 ⟨rfl, v2, hs2, ho2, hon2⟩
  have hb2 := below_only hb1 hon2 (show w.heap.size ≤ b by omega) hb1.size
  have hout2 : Has w2 w.heap.size 24 zero24 := (hon2.block _ hout.size (by intro e; injection e; omega)).trans hout
  have HZ := Lib.hid hr.1
  rw [List.nil_append, Nat.zero_add] at hs2
  rw [List.nil_append] at ho2
  have hlen := Lib.hid (run_len (s := st0) st0_ok hr.2.1)
  go_wp2_with fail
  refine (rsum_any b zs.length _ v2 _ _ (run_ok st0_ok hr.2.1) hs2 (ho2.lower (Nat.zero_le _)) hlen.out (by have := HZ.out; omega)).mono ?_
  rintro e w3 ⟨rfl, H3⟩
  have hb3 := hb2.trans (H3.mono hb2.size)
  have hout3 := hout2.kept H3
  have hsl := Lib.hid (show (shaI zs).length = 32 from rfl)
  have hsh := Lib.hid (show sumI (run st0 zs).1 zs.length (run st0 zs).2 = shaI zs from rfl)
  rw [hsh.out]
  go_wp2_with (refine wpList_store_row rfl 24 _ _ rfl w.heap.size (nums (shaI zs)).toArray rfl rfl 24 _ hout3 (size24 hsl.out) (by rw [zero24_size, List.size_toArray, nums_len, hsl.out]) (nums_all _) ?_)
  exact bodyPost_ret (results_cell_row rfl _ _ w.heap.size 24 (nums (shaI zs)).toArray (0, 0) _ rfl (setRow_heap _ _ _ _ _ _ hout3) Tryd.underlying24 rfl (size24 hsl.out)) rfl ⟨rfl, below_setRow hb3 (Nat.le_refl _) _⟩

/-- A text's bytes, as the conversion of a constant lays them. -/
theorem row_text (w : World) (zs : List Int) (hb : Byt zs) (n : Nat) (hn : zs.length = n) (fr : Nat × Nat) : Row (w.alloc (.cells (nums zs).toArray 5 fr)) (some ⟨w.heap.size, 0, none⟩) n zs := by
  refine row_mk hn hb (by simp) (fun j hj => ?_)
  rw [cell_of_row _ w.heap.size (0 + j) (nums zs).toArray 5 fr (heap_alloc_new w _), Nat.zero_add]
  simp only [nums, List.getElem?_toArray, List.getElem?_map, List.getD_eq_getElem?_getD]
  rw [List.getElem?_eq_getElem (by omega)]
  rfl
theorem byt_abc : Byt [97, 98, 99] := by intro n hn; simp at hn; omega
theorem abc_lit : (nums (shaI [97, 98, 99])).toArray = #[.int .u8 186, .int .u8 120, .int .u8 22, .int .u8 191, .int .u8 143, .int .u8 1, .int .u8 207, .int .u8 234, .int .u8 65, .int .u8 65, .int .u8 64, .int .u8 222, .int .u8 93, .int .u8 174, .int .u8 34, .int .u8 35, .int .u8 176, .int .u8 3, .int .u8 97, .int .u8 163, .int .u8 150, .int .u8 23, .int .u8 122, .int .u8 156, .int .u8 180, .int .u8 16, .int .u8 255, .int .u8 97, .int .u8 242, .int .u8 0, .int .u8 21, .int .u8 173] := by
  rw [sha_abc]; rfl
set_option maxRecDepth 100000 in
theorem alive_any (w : World) (ht : Tabs w) : Calls Tryd.prog 7 #[] w fun e w' => e = .returned (.bool true) ∧ Below w.heap.size w w' := by
  have hz2 := zero24_run
  have hcv := Lib.run_convert_bytes_const (P := Tryd.prog) w 22 5 #[.int .u8 97, .int .u8 98, .int .u8 99] 3 3 Tryd.underlying22 Tryd.underlying5
  have hba : Below w.heap.size w (w.alloc (.cells #[.int .u8 97, .int .u8 98, .int .u8 99] 5 (3, 4))) := (Below.refl _ _).alloc (Nat.le_refl _) _
  go_enter Tryd.func7, Tryd.ntmps7
  go_wp2_with fail
  refine (shaSum_any _ 3 3 [97, 98, 99] _ (row_text w [97, 98, 99] byt_abc 3 rfl (3, 4)) (Nat.le_refl _) (ht.kept hba) (by omega)).mono ?_
  rintro e w1 ⟨rfl, H1⟩
  have hb1 := hba.trans (H1.mono hba.size)
  have hne := has_new w1 24 zero24
  have hbc := hb1.alloc hb1.size (.cells zero24 24)
  have hsl := Lib.hid (show (shaI [97, 98, 99]).length = 32 from rfl)
  have habc := Lib.hid abc_lit
  generalize shaI [97, 98, 99] = dig at *
  go_wp2_with ((refine wpList_row rfl 24 _ _ rfl w1.heap.size (nums dig).toArray rfl rfl 24 _ hne (size24 hsl.out) (by rw [zero24_size, List.size_toArray, nums_len, hsl.out]) (nums_all _) ?_; intro w2 hs2 hon2; have d0 : w2.cell? ⟨w1.heap.size, 0, none⟩ = some (.int .u8 186) := (by rw [hs2.at, habc.out]; rfl); have d1 : w2.cell? ⟨w1.heap.size, 1, none⟩ = some (.int .u8 120) := (by rw [hs2.at, habc.out]; rfl); have d31 : w2.cell? ⟨w1.heap.size, 31, none⟩ = some (.int .u8 173) := (by rw [hs2.at, habc.out]; rfl)))
  go_ret
  exact ⟨rfl, below_only hbc hon2 hb1.size hbc.size⟩
end Go.Proofs.YtllpcpjnajdfkaaDoor
