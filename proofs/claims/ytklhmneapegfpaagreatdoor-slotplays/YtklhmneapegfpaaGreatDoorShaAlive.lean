/-
  The document's own hash of bytes, and the bytes of a text; conditions: as each states.
-/
import Derived.Test.YtklhmneapegfpaaGreatDoorShaRs
import Derived.Lib.SlBytesConst
namespace Go.Proofs.YtklhmneapegfpaaGreatDoor.Sha
open Go.RowKit
set_option linter.unusedVariables false
set_option linter.unusedSimpArgs false

set_option maxRecDepth 100000 in
set_option maxHeartbeats 1000000 in
theorem rsha_any (a : Option Addr) (m cap : Nat) (zs : List Int) (w : World) (hr : Row w a m zs) (hcap : m ≤ cap) (hm : m ≤ 1000000) :
    Calls Tryz.prog 23 #[.slice a m cap] w fun e w' => e = .returned (.agg (nums (shaI zs)).toArray) ∧ Below w.heap.size w w' := by
  have hz2 := zero24_run
  have hba : Below w.heap.size w (w.alloc (.cells zero24 47)) := (Below.refl _ _).alloc (Nat.le_refl _) _
  go_enter Tryz.func23, Tryz.ntmps23
  go_wp2_with fail
  refine (rnew_any _).mono ?_
  rintro e w1 ⟨b, rfl, hbge, hs1, H1⟩
  have hb1 := hba.trans (H1.mono hba.size)
  have hout : Has w1 w.heap.size 47 zero24 := (has_new w 47 zero24).kept H1
  have hlt : w.heap.size < b := by simp at hbge; omega
  go_wp2_with fail
  refine (rwrite_any b 0 st0 (.slice none 0 0) [] a m cap zs _ st0_ok hs1 (own_nil _ _) (row_below hb1 hr) hcap (row_off hr (by omega)) (by omega) (by simp; omega)).mono ?_
  rintro e w2 ⟨rfl, v2, hs2, ho2, hon2⟩
  have hb2 := below_only hb1 hon2 (show w.heap.size ≤ b by omega) hb1.size
  have hout2 : Has w2 w.heap.size 47 zero24 := (hon2.block _ hout.size (by intro e; injection e; omega)).trans hout
  have HZ := Lib.hid hr.1
  rw [List.nil_append, Nat.zero_add] at hs2
  rw [List.nil_append] at ho2
  have hlen := Lib.hid (run_len (s := st0) st0_ok hr.2.1)
  go_wp2_with fail
  refine (rsum_any b zs.length _ v2 _ _ (run_ok st0_ok hr.2.1) hs2 (ho2.lower (Nat.zero_le _)) hlen.out (by have := HZ.out; omega)).mono ?_
  rintro e w3 ⟨rfl, H3⟩
  have hb3 := hb2.trans (H3.mono hb2.size)
  have hout3 := hout2.kept H3
  have hsl := Lib.hid (show (shaI zs).length = 32 from rfl)
  have hsh := Lib.hid (show sumI (run st0 zs).1 zs.length (run st0 zs).2 = shaI zs from rfl)
  rw [hsh.out]
  go_wp2_with (refine wpList_store_row rfl 47 _ _ rfl w.heap.size (nums (shaI zs)).toArray rfl rfl 47 _ hout3 (size24 hsl.out) (by rw [zero24_size, List.size_toArray, nums_len, hsl.out]) (nums_all _) ?_)
  exact bodyPost_ret (results_cell_row rfl _ _ w.heap.size 47 (nums (shaI zs)).toArray (0, 0) _ rfl (setRow_heap _ _ _ _ _ _ hout3) Tryz.underlying47 rfl (size24 hsl.out)) rfl ⟨rfl, below_setRow hb3 (Nat.le_refl _) _⟩

/-- A text's bytes, as the conversion of a constant lays them. -/
theorem row_text (w : World) (zs : List Int) (hb : Byt zs) (n : Nat) (hn : zs.length = n) (fr : Nat × Nat) : Row (w.alloc (.cells (nums zs).toArray 5 fr)) (some ⟨w.heap.size, 0, none⟩) n zs := by
  refine row_mk hn hb (by simp) (fun j hj => ?_)
  rw [cell_of_row _ w.heap.size (0 + j) (nums zs).toArray 5 fr (heap_alloc_new w _), Nat.zero_add]
  simp only [nums, List.getElem?_toArray, List.getElem?_map, List.getD_eq_getElem?_getD]
  rw [List.getElem?_eq_getElem (by omega)]
  rfl
end Go.Proofs.YtklhmneapegfpaaGreatDoor.Sha
