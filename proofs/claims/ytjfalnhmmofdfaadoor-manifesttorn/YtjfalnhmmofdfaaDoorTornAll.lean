/-
  What is proved: for every key, manifest and number the law ManifestTorn answers true: no beginning of a manifest is one, and none with more behind (keys of up to 200 bytes, names of up to 100; longer ones the law lets by). Conditions: the two tables of package sha and the two of Go's utf8 hold what their initialisers lay (the card ties that to the program text). (Several texts in one: the call that every law makes first, what is told of a manifest that came in, the law's walk, its row and card.)
-/
import Derived.Test.YtjfalnhmmofdfaaDoorSg
import Derived.Test.YtjfalnhmmofdfaaDoorRm
import Derived.Test.YtjfalnhmmofdfaaDoorMk
import Derived.Deep.Strs
import Derived.ProofKit
import Derived.Test.YtjfalnhmmofdfaaDoorCards
import Derived.SevenTiedAt
namespace Go.Proofs.YtjfalnhmmofdfaaDoor
open Go.RowKit
set_option linter.unusedVariables false
set_option linter.unusedSimpArgs false

def mA : Mn := ⟨⟨#[97]⟩, 1, 1, List.replicate 32 0⟩
theorem mA_ok : mA.Ok := ⟨List.length_replicate, byt_rep _, by unfold I64 mA; simp, by unfold I64 mA; simp⟩
theorem mA_name : Nam.validL (Nam.all mA.name) = true := by kernel_rfl
theorem mA_back (ks : List Int) : Good (byteL ks mA) ∧ readM (byteL ks mA) = mA ∧ readT (byteL ks mA) = Sha.tagI ks (bodyL mA) ∧ signB ks (byteL ks mA) = true :=
  byte_back ks List.length_replicate mA_name ⟨by unfold mA; simp, by unfold mA; simp⟩ ⟨by unfold mA; simp, by unfold mA; simp⟩
set_option maxRecDepth 100000 in
theorem other_tag : (decide (Sha.tagI [107] (bodyL mA) = Sha.tagI [108] (bodyL mA))) = false := by decide +kernel
theorem mA_other : signB [108] (byteL [107] mA) = false := by
  obtain ⟨p1, p2, p3, p4, p5, p6, p7⟩ := parts_of mA (Sha.tagI [107] (bodyL mA)) List.length_replicate
  unfold signB byteL
  rw [p6, p7, other_tag, Bool.and_false]
theorem nil_not : ¬ Good [] := fun g => by have := g.1; simp at this
theorem byt_k (x : Int) (h : 0 ≤ x ∧ x ≤ 255) : Byt [x] := byt_one h
theorem key_row (w : World) (x : Int) (h : 0 ≤ x ∧ x ≤ 255) : Row (w.alloc (.cells #[.int .u8 x] 5 (1, 2))) (some ⟨w.heap.size, 0, none⟩) 1 [x] := row_text w [x] (byt_one h) 1 rfl (1, 2)
set_option maxRecDepth 100000 in
set_option maxHeartbeats 2000000 in
theorem live_any (w : World) (ht : Sha.Tabs w) : Calls Tryd.prog 7 #[] w fun e w' => e = .returned (.bool true) ∧ Below w.heap.size w w' := by
  have hz27 := zero27_run
  have hcv := fun (w : World) (x : Int) => Lib.run_convert_bytes_const (P := Tryd.prog) w 22 5 #[.int .u8 x] 1 1 Tryd.underlying22 Tryd.underlying5
  have HR := Lib.hid (read_any none 0 0 [] w (row_nil w) (Nat.le_refl _) (by omega))
  have HS1 := Lib.hid (mA_back [107]).2.2.2
  have HS2 := Lib.hid mA_other
  go_enter Tryd.func7, Tryd.ntmps7
  go_wp2_with (first
    | (go_at_call 8; (with_reducible refine HR.out.mono ?_); rintro e w1 ⟨v1, rfl, o1, b1⟩; clear HR; rw [readE_no nil_not, readM_no nil_not]; obtain ⟨A1, c1, rfl, _, _, _⟩ := o1.form; clear o1; have hne := has_new w1 27 zeroM.cells)
    | (refine Sha.wpList_row rfl 27 _ _ rfl w1.heap.size zeroM.cells rfl rfl 27 _ hne (size27 zero_len) rfl (mn_all _) ?_; intro w2 hs2 hon2; have b2 := Sha.below_only (b1.alloc b1.size (.cells zeroM.cells 27)) hon2 b1.size (b1.alloc b1.size (.cells zeroM.cells 27)).size; have bk2 : Below w.heap.size w (w2.alloc (.cells #[.int .u8 107] 5 (1, 2))) := b2.alloc b2.size _; have HB := Lib.hid (mbytes_any _ 1 1 [107] mA _ (key_row w2 107 (by omega)) (by omega) (by omega) mA_ok (ht.kept bk2)))
    | (refine wpList_build25 rfl (.const (.int .i64 1)) (.const (.int .i64 1)) rfl 1 1 rfl rfl ?_)
    | (refine wpList_build27 rfl (.const (.string ⟨#[97]⟩)) (.tmp 12) rfl ⟨#[97]⟩ 1 1 rfl rfl ?_)
    | (go_at_call 12; refine HB.out.mono ?_; rintro e w3 ⟨v3, rfl, o3, b3⟩; clear HB; have b3' := bk2.trans (b3.mono bk2.size); obtain ⟨A3, c3, rfl, hc3, r3, _⟩ := o3.form; clear o3; have bk3 : Below w.heap.size w (w3.alloc (.cells #[.int .u8 107] 5 (1, 2))) := b3'.alloc b3'.size _; have HG1 := Lib.hid (sig_any _ 1 1 [107] A3 92 c3 (byteL [107] mA) _ (key_row w3 107 (by omega)) (by omega) (by omega) (row_below ((Below.refl _ _).alloc (Nat.le_refl _) _) r3) hc3 (by omega) (ht.kept bk3)); rw [HS1.out] at HG1)
    | (go_at_call 14; (with_reducible refine (lnum_any _ _).mono ?_); rintro e wn ⟨rfl, rfl⟩)
    | (go_at_call 15; (with_reducible refine HG1.out.mono ?_); rintro e w4 ⟨rfl, b4⟩; clear HG1; have b4' := bk3.trans (b4.mono bk3.size); have bk4 : Below w.heap.size w (w4.alloc (.cells #[.int .u8 108] 5 (1, 2))) := b4'.alloc b4'.size _; have r4 := row_below b4 (row_below ((Below.refl _ _).alloc (Nat.le_refl _) (.cells #[.int .u8 107] 5 (1, 2))) r3); have HG2 := Lib.hid (sig_any _ 1 1 [108] A3 92 c3 (byteL [107] mA) _ (key_row w4 108 (by omega)) (by omega) (by omega) (row_below ((Below.refl _ _).alloc (Nat.le_refl _) _) r4) hc3 (by omega) (ht.kept bk4)); rw [HS2.out] at HG2)
    | (go_at_call 15; (with_reducible refine HG2.out.mono ?_); rintro e w5 ⟨rfl, b5⟩; clear HG2))
  go_ret
  exact ⟨rfl, bk4.trans (b5.mono bk4.size)⟩
end Go.Proofs.YtjfalnhmmofdfaaDoor

namespace Go.Proofs.YtjfalnhmmofdfaaDoor
open Go.ChangeShapes Go.WideShapes Go.ChangeAt Go.RowKit
set_option linter.unusedVariables false
set_option linter.unusedSimpArgs false

set_option maxRecDepth 100000 in
theorem dig_of {H : Type} {enc : TypeId × Value → H} {w : World} {fuel : Nat} {l : List Value} {x : DataW H × List MemPlace} (h : DataW.trod enc Tryd.prog w 0 (fun _ => true) true fuel 23 l = some x) : ∃ ds : List Int, l = nums ds ∧ ds.length = 32 ∧ Byt ds := by
  have e23 : Tryd.prog.cellsOf 23 = 32 := by kernel_rfl
  have e5 : Tryd.prog.cellsOf 5 = 1 := by kernel_rfl
  obtain ⟨xs, m, _, _, hl, hxl, hel⟩ := DataW.trod_array Tryd.underlying23 h
  rw [e23] at hl
  have key : ∀ i, i < 32 → ∃ z : Int, l[i]? = some (.int .u8 z) ∧ 0 ≤ z ∧ z ≤ 255 := by
    intro i hi
    have hE := hel i hi
    rw [e5, Nat.mul_one, List.getElem?_eq_getElem (by omega)] at hE
    obtain ⟨z, e1, _, hw⟩ := DataW.trod_int Tryd.underlying5 hE
    have h0 : ((l.drop i).take 1)[0]? = some (.int .u8 z) := by rw [e1]; rfl
    exact ⟨z, by simpa using h0, bounds_u8 hw⟩
  refine ⟨l.map (fun v => match v with | .int _ z => z | _ => 0), ?_, by rw [List.length_map, hl], ?_⟩
  · refine List.ext_getElem? fun i => ?_
    by_cases hi : i < 32
    · obtain ⟨z, e, _⟩ := key i hi
      simp [nums, e]
    · rw [List.getElem?_eq_none (by omega), List.getElem?_eq_none (by simp [nums]; omega)]
  · intro n hn
    obtain ⟨v, hv, rfl⟩ := List.mem_map.1 hn
    obtain ⟨i, hi, rfl⟩ := List.mem_iff_getElem.1 hv
    obtain ⟨z, e, hz⟩ := key i (by omega)
    rw [List.getElem?_eq_getElem hi] at e
    rw [Option.some.inj e]
    exact hz
set_option maxRecDepth 100000 in
theorem man_of {H : Type} {enc : TypeId × Value → H} {w : World} {fuel : Nat} {cs : Array Value} {x : DataW H × List MemPlace} (h : DataW.trod enc Tryd.prog w 0 (fun _ => true) true fuel 27 (Value.agg cs).cells.toList = some x) : ∃ m : Mn, cs = m.cells ∧ m.Ok ∧ m.name.size ≤ maxLen := by
  have e27 : Tryd.prog.cellsOf 27 = 35 := by kernel_rfl
  have e25 : Tryd.prog.cellsOf 25 = 34 := by kernel_rfl
  have e23 : Tryd.prog.cellsOf 23 = 32 := by kernel_rfl
  have e9 : Tryd.prog.cellsOf 9 = 1 := by kernel_rfl
  have e3 : Tryd.prog.cellsOf 3 = 1 := by kernel_rfl
  obtain ⟨y0, y1, n, _, hl, f0, f1⟩ := trod_struct2 Tryd.underlying27 h
  obtain ⟨z0, z1, z2, k, _, hl1, g0, g1, g2⟩ := Deep.trod_struct3 Tryd.underlying25 f1
  rw [e27] at hl
  simp only [e9, e25, e3, e23] at f0 g0 g1 g2
  obtain ⟨s, c0, _, hs⟩ := DataW.trod_string Tryd.underlying9 f0
  obtain ⟨v, c1, _, hv⟩ := DataW.trod_int Tryd.underlying3 g0
  obtain ⟨q, c2, _, hq⟩ := DataW.trod_int Tryd.underlying3 g1
  obtain ⟨ds, c3, hd, hb⟩ := dig_of g2
  have hbv := bounds_i64 hv
  have hbq := bounds_i64 hq
  refine ⟨⟨s, v, q, ds⟩, ?_, ⟨hd, hb, ⟨hbv.1, hbv.2⟩, ⟨hbq.1, hbq.2⟩⟩, hs⟩
  obtain ⟨l⟩ := cs
  have hl' : l.length = 35 := hl
  simp only [Value.cells] at c0 c1 c2 c3
  match l, hl' with
  | a0 :: a1 :: a2 :: t, ht =>
    have ht3 : t.length = 32 := by simpa using ht
    simp at c0
    simp [List.take_of_length_le, ht3] at c1 c2 c3
    unfold Mn.cells
    simp [c0, c1, c2, c3]
end Go.Proofs.YtjfalnhmmofdfaaDoor

namespace Go.Proofs.YtjfalnhmmofdfaaDoor.manifestTorn
open Go.ChangeShapes Go.WideShapes Go.ChangeAt Go.RowKit
set_option linter.unusedVariables false
set_option linter.unusedSimpArgs false

/-- What Read answers of what is none. -/
def ReadsN (w : World) (e : Ending) (w' : World) : Prop := ∃ A c, e = .returned (.tuple #[.agg zeroM.cells, .slice A 0 c, .int .i64 6]) ∧ Below w.heap.size w w'
theorem read_not (A : Option Addr) (n c : Nat) (zs : List Int) (w : World) (hr : Row w A n zs) (hc : n ≤ c) (hn : n ≤ 1000000) (h : n ≠ 92) : Calls Tryd.prog 8 #[.slice A n c] w (ReadsN w) := by
  have hg : ¬ Good zs := not_good (by rw [hr.1]; exact h)
  refine (read_any A n c zs w hr hc hn).mono ?_
  rintro e w' ⟨v, rfl, o, b⟩
  rw [readM_no hg, readE_no hg]
  rw [readT_no hg] at o
  obtain ⟨A', c', rfl, _, _, _⟩ := o.form
  exact ⟨A', c', rfl, b⟩
theorem sig_not (a : Option Addr) (n cap : Nat) (ks : List Int) (A : Option Addr) (m c : Nat) (zs : List Int) (w : World) (hk : Row w a n ks) (hcap : n ≤ cap) (hn : n ≤ 1000000) (hr : Row w A m zs) (hc : m ≤ c) (hm : m ≤ 1000000) (ht : Sha.Tabs w) (h : m ≠ 92) :
    Calls Tryd.prog 15 #[.slice a n cap, .slice A m c] w fun e w' => e = .returned (.bool false) ∧ Below w.heap.size w w' := by
  have h2 := sig_any a n cap ks A m c zs w hk hcap hn hr hc hm ht
  rw [sign_no (not_good (by rw [hr.1]; exact h))] at h2
  exact h2
set_option maxRecDepth 100000 in
set_option maxHeartbeats 2000000 in
theorem walk (a0 : Option Addr) (len0 cap0 : Nat) (z0 : List Int) (m : Mn) (n : Int) (w : World) (w0 : Sha.IsRow .u8 w a0 len0 cap0 z0) (hm : m.Ok) (hms : m.name.size ≤ maxLen) (wn : (Lit.int .i64 n).wf = true) (ht : Sha.Tabs w) :
    Calls Tryd.prog 5 #[.slice a0 len0 cap0, .agg m.cells, .int .i64 n] w fun e w' => e = .returned (.bool true) ∧ Below w.heap.size w w' := by
  obtain ⟨hk0, hc0⟩ := Sha.row_of w0
  have hk := sha_row hk0
  clear hk0 w0
  have hz27 := zero27_run
  have ba : Below w.heap.size w (w.alloc (.cells m.cells 27)) := (Below.refl _ _).alloc (Nat.le_refl _) _
  have h0 := has_new w 27 m.cells
  have hl := hm.1
  have HLV := Lib.hid (live_any (w.alloc (.cells m.cells 27)) (ht.kept ba))
  have hbn := bounds_i64 wn
  unfold maxLen at hms
  by_cases i0 : (200 : Int) < (len0 : Int)
  · go_enter Tryd.func5, Tryd.ntmps5
    go_wp2_with (go_at_call 7; (with_reducible refine HLV.out.mono ?_); rintro e w1 ⟨rfl, b1⟩)
    go_ret
    exact ⟨rfl, ba.trans (b1.mono ba.size)⟩
  by_cases i1 : (100 : Int) < (m.name.size : Int)
  · go_enter Tryd.func5, Tryd.ntmps5
    go_wp2_with (go_at_call 7; (with_reducible refine HLV.out.mono ?_); rintro e w1 ⟨rfl, b1⟩; have c0 : w1.cell? ⟨w.heap.size, 0, none⟩ = some (.string m.name) := (h0.kept b1).at 0)
    go_ret
    exact ⟨rfl, ba.trans (b1.mono ba.size)⟩
  by_cases i2 : n < 0
  · go_enter Tryd.func5, Tryd.ntmps5
    go_wp2_with (go_at_call 7; (with_reducible refine HLV.out.mono ?_); rintro e w1 ⟨rfl, b1⟩; have c0 : w1.cell? ⟨w.heap.size, 0, none⟩ = some (.string m.name) := (h0.kept b1).at 0)
    go_ret
    exact ⟨rfl, ba.trans (b1.mono ba.size)⟩
  obtain ⟨N, rfl⟩ := Int.eq_ofNat_of_zero_le (show 0 ≤ n by omega)
  obtain ⟨K, hK⟩ : ∃ K, N % 92 = K := ⟨_, rfl⟩
  have hKl : K < 92 := by omega
  have hmod : (N : Int).tmod 92 = (K : Int) := by rw [Int.tmod_eq_emod_of_nonneg (by omega)]; omega
  have hmod2 : (N : Int) % 92 = (K : Int) := by omega
  have HOK := Lib.hid hm
  have HLS := Lib.hid (Sha.tag_len (z0.take len0) (bodyL m))
  have HBL := Lib.hid (byte_len (z0.take len0) m)
  generalize z0.take len0 = ks at *
  have HBY := Lib.hid (show Byt (byteL ks m) from byt_app (body_byt hm.2.1) (tag_byt hk.2.1 (body_byt hm.2.1)))
  have HZ := Lib.hid (byt_one (x := 0) (by omega))
  clear hK hm wn hms
  go_enter Tryd.func5, Tryd.ntmps5
  go_wp2_with (first
    | (go_at_call 7; (with_reducible refine HLV.out.mono ?_); rintro e w1 ⟨rfl, b1⟩; clear HLV; have h1 := h0.kept b1; have c0 : w1.cell? ⟨w.heap.size, 0, none⟩ = some (.string m.name) := h1.at 0; have b1' := ba.trans (b1.mono ba.size); have HB := Lib.hid (mbytes_any a0 len0 cap0 ks m w1 (row_below b1' hk) hc0 (by omega) HOK.out (ht.kept b1')))
    | (refine wpList_load_row rfl 27 _ rfl w.heap.size rfl 27 _ (0, 0) _ h1 Tryd.underlying27 rfl (size27 hl) ?_)
    | (go_at_call 12; (with_reducible refine HB.out.mono ?_); rintro e w2 ⟨v2, rfl, o2, b2⟩; clear HB; have b2' := b1'.trans (b2.mono b1'.size); obtain ⟨A2, c2, rfl, hc2, r2, _⟩ := o2.form; clear o2; have hrk := row_upto r2 K (by omega); have HR := Lib.hid (read_not A2 K c2 _ w2 hrk (by omega) (by omega) (by omega)))
    | (go_at_call 8; (with_reducible refine HR.out.mono ?_); rintro e w3 ⟨A3, c3, rfl, b3⟩; clear HR; have b3' := b2'.trans (b3.mono b2'.size); have hne := has_new w3 27 zeroM.cells)
    | (refine Sha.wpList_row rfl 27 _ _ rfl w3.heap.size zeroM.cells rfl rfl 27 _ hne (size27 zero_len) rfl (mn_all _) ?_; intro w4 hs4 hon4; have q4 := (b3'.alloc b3'.size (.cells zeroM.cells 27)).size; have b4 := Sha.below_only (b3'.alloc b3'.size (.cells zeroM.cells 27)) hon4 b3'.size q4; have r4 : Row w4 A2 92 (byteL ks m) := row_under (row_below ((Below.refl _ _).alloc (Nat.le_refl _) (.cells zeroM.cells 27)) (row_below b3 r2)) (row_lies (row_below b3 r2)) (only_grown hon4) (fun b e => by omega); have n4 := own_nil w4 w4.heap.size)
    | (at_builtin; (with_reducible refine wpList_app rfl _ _ rfl w4.heap.size (.slice none 0 0) 0 [] rfl n4 A2 92 c2 (byteL ks m) rfl r4 (row_none r4) (by omega) (Nat.le_refl _) ?_); intro v5 w5 o5 g5; have e5 := below_own (Below.refl _ w4) n4 g5 (Nat.le_refl _) (Nat.le_refl _); rw [Nat.zero_add, List.nil_append] at o5; have l5 : Row (w5.alloc (.cells #[.int .u8 0] 5)) (some ⟨w5.heap.size, 0, none⟩) 1 [0] := row_one w5 (by omega); have e5a := e5.alloc e5.size (.cells #[.int .u8 0] 5); have o5a := o5.kept ((Below.refl _ _).alloc (Nat.le_refl _) (.cells #[.int .u8 0] 5)))
    | (at_builtin; refine wpList_app rfl _ _ rfl w4.heap.size v5 92 (byteL ks m) rfl o5a _ 1 1 [0] rfl l5 (row_none l5) (by omega) e5a.size ?_; intro v6 w6 o6 g6; have e6 := below_own e5a o5a g6 (Nat.le_refl _) e5a.size; have b6 := b4.trans (e6.mono b4.size); obtain ⟨A6, c6, rfl, hc6, r6, _⟩ := o6.form; have HR2 := Lib.hid (read_not A6 93 c6 _ w6 r6 hc6 (by omega) (by omega)))
    | (go_at_call 8; (with_reducible refine HR2.out.mono ?_); rintro e w7 ⟨A7, c7, rfl, b7⟩; clear HR2; have b7' := b6.trans (b7.mono b6.size); have hne7 := has_new w7 27 zeroM.cells)
    | (refine Sha.wpList_row rfl 27 _ _ rfl w7.heap.size zeroM.cells rfl rfl 27 _ hne7 (size27 zero_len) rfl (mn_all _) ?_; intro w8 hs8 hon8; have q8 := (b7'.alloc b7'.size (.cells zeroM.cells 27)).size; have b8 := Sha.below_only (b7'.alloc b7'.size (.cells zeroM.cells 27)) hon8 b7'.size q8; have r8 : Row w8 A2 92 (byteL ks m) := row_under (row_below ((Below.refl _ _).alloc (Nat.le_refl _) (.cells zeroM.cells 27)) (row_below b7 (row_below e6 r4))) (row_lies (row_below b7 (row_below e6 r4))) (only_grown hon8) (fun b e => by omega); have HS := Lib.hid (sig_not a0 len0 cap0 ks A2 K c2 _ w8 (row_below b8 hk) hc0 (by omega) (row_upto r8 K (by omega)) (by omega) (by omega) (ht.kept b8) (by omega)))
    | (go_at_call 14; (with_reducible refine (lnum_any _ _).mono ?_); rintro e wn ⟨rfl, rfl⟩)
    | (go_at_call 15; (with_reducible refine HS.out.mono ?_); rintro e w9 ⟨rfl, b9⟩; clear HS))
  go_ret
  exact ⟨rfl, b8.trans (b9.mono b8.size)⟩
end Go.Proofs.YtjfalnhmmofdfaaDoor.manifestTorn

namespace Go.Proofs.YtjfalnhmmofdfaaDoor.manifestTorn
open Go.ChangeShapes Go.WideShapes Go.ChangeAt Go.RowKit
set_option linter.unusedVariables false

set_option maxRecDepth 100000 in
theorem lifted (os : Os) (started : os.Started) (H : Type) (enc : TypeId × Value → H) :
    ReturnsInHanded {} Tryd.checked os 5 .any (fun w args => (Rows.manifestTornSpec.pre enc Tryd.prog Tryd.f5 [] false w args ∧ laidMetH Tryd.prog Sha.laid2 w) ∧ sizedMet enc Tryd.prog Tryd.f5 (OpenSpec.ofChange Rows.manifestTornSpec) false w args)
      (Rows.manifestTornSpec.post enc Tryd.prog Tryd.f5 false true false false) := by
  refine returnsInHanded_of_change_and (C := Tryd.checked) (X := fun w _ => laidMetH Tryd.prog Sha.laid2 w) (fun _ _ _ hh h => h.of_heap hh) Sha.own started (by kernel_rfl) Tryd.func5
    (ChangeSpec.witness_shaped (enc := enc) (C := Tryd.checked) (os := os) (X := fun w _ => laidMetH Tryd.prog Sha.laid2 w) false (World.laidAll Tryd.prog os Sha.laid2) #[.slice none 0 0, .agg zeroM.cells, .int .i64 0] 8 (World.laidAll_os _ _ _) (World.shaped_of_ZipB (by kernel_rfl) (by kernel_rfl)) (by kernel_rfl) (by kernel_rfl) (by kernel_rfl) (Sha.lay_met os _)) ?_
  intro W base args ds gs before hval0 hW _ _ hL _
  have hval : ∀ (j : Nat) t v, Tryd.f5.params[j]? = some t → args[j]? = some v → Value.okWide Tryd.prog W .any base t v := hval0
  have hW' := hW
  obtain ⟨p, q, hA0, hV, rfl, hfz, hnd⟩ := hW
  have hA : DataW.TrodAll enc Tryd.prog W 0 (fun _ => true) true Tryd.f5.params.toList args.toList ds p := hA0
  rw [Tryd.params5] at hA hval
  obtain ⟨v0, vs0, d0, ds0, p0, q0, hargs, rfl, rfl, h0, r0⟩ := trodAll_cons hA
  obtain ⟨v1, vs1, d1, ds1, p1, q1, rfl, rfl, rfl, h1, r1⟩ := trodAll_cons r0
  obtain ⟨v2, vs2, d2, ds2, p2, q2, rfl, rfl, rfl, h2, r2⟩ := trodAll_cons r1
  obtain ⟨rfl, rfl, rfl⟩ := trodAll_nil r2
  obtain rfl : args = #[v0, v1, v2] := by cases args; simp_all
  obtain ⟨rfl, rfl⟩ := trodVars_none hV
  obtain ⟨a0, len0, cap0, rfl⟩ := okWide_slice Tryd.underlying22 (hval 0 22 v0 rfl rfl)
  have k0 := h0
  have lt0 : ∀ x ∈ p0, x.block < W.heap.size := by obtain ⟨m, hm⟩ := k0; exact DataW.trod_lt m _ _ _ hm
  obtain ⟨z0, w0⟩ : ∃ zs, Sha.IsRow .u8 W a0 len0 cap0 zs := by
    obtain ⟨fuel, hf⟩ := h0
    rcases open_ints Tryd.underlying22 Tryd.underlying5 (by kernel_rfl) hf with ⟨hcs, _⟩ | ⟨x, l, c, zs, hcs, _, hl, hm, hz, _, hcell, hwz⟩
    · simp [Value.cells] at hcs
      obtain ⟨rfl, rfl, rfl⟩ := hcs
      exact ⟨[], .inl ⟨rfl, rfl, rfl, rfl⟩⟩
    · simp [Value.cells] at hcs
      obtain ⟨rfl, rfl, rfl⟩ := hcs
      exact ⟨zs, .inr ⟨_, rfl, hl, hm, by simpa using hz, hcell, hwz⟩⟩
  obtain ⟨cs1, rfl, hcz1⟩ := okWide_struct Tryd.underlying27 (hval 1 27 v1 rfl rfl)
  have k1 := h1
  have lt1 : ∀ x ∈ p1, x.block < W.heap.size := by obtain ⟨m, hm⟩ := k1; exact DataW.trod_lt m _ _ _ hm
  obtain ⟨m1, rfl, w1, wn1⟩ : ∃ m : Mn, cs1 = m.cells ∧ m.Ok ∧ m.name.size ≤ maxLen := by
    obtain ⟨fuel, hf⟩ := h1
    exact man_of hf
  obtain ⟨a2, rfl, rfl, rfl, w2⟩ := open_int Tryd.underlying3 (hval 2 3 v2 rfl rfl) h2
  clear hA0 hval0
  refine (walk a0 len0 cap0 z0 m1 a2 W w0 w1 wn1 w2 (Sha.tabs_of_laid hL)).mono fun e W' ⟨he, bel⟩ => ?_
  subst he
  exact ⟨_, rfl, _, _, _, [], _, [], hW', trodAll_mk1 (shut_bool Tryd.underlying4 _), (trodAll_cons_mk (Below.trod Sha.laidOut (by kernel_rfl) (of_decide_eq_true (by kernel_rfl)) k0 bel lt0) (trodAll_cons_mk (Below.trod Sha.laidOut (by kernel_rfl) (of_decide_eq_true (by kernel_rfl)) k1 bel lt1) (trodAll_cons_mk (shut_int Tryd.underlying3 w2) trodAll_mk0))), rfl, bel.frame _, fun h => by cases h⟩

theorem over : Rows.ManifestTornSaid :=
  OpenClaim.holds_of_wide 5 Tryd.f5 rfl rfl rfl rfl rfl rfl rfl ⟨rfl, rfl, rfl, rfl, rfl⟩ rfl rfl rfl rfl rfl (by kernel_rfl) Tryd.func5 (by kernel_rfl)
    (of_decide_eq_true (by kernel_rfl)) (by unfold Func.isWrapper; first | (rw [if_pos (by decide +kernel)]; kernel_rfl) | (rw [if_neg (by decide +kernel)]; exact ⟨rfl, rfl⟩))
    (fun os started H enc _ => lifted os started H enc)

theorem card : Rows.ManifestTornCardSaid :=
  Claim7.holds_tied_plain_at .later [] [.data, .data, .data, .pinned] true (true, "b38f52f34041b67d6d2caf1fc27a2f404c5d33e81173ef7ec2abf996b45de4b2") false
    over (fun _ h => by cases h) (by kernel_rfl) (fun _ h => by cases h) manifestTorn_row_tie rfl ⟨rfl, rfl⟩ (by kernel_rfl) rfl
    (fun f fn hf hfn => by
      obtain rfl : f = 5 := Option.some.inj ((show Tryd.prog.funcNamed Rows.manifestTornRow.func = some 5 by kernel_rfl).symm.trans hf) |>.symm
      obtain rfl : fn = Tryd.f5 := (Option.some.inj (Tryd.func5.symm.trans hfn)).symm
      exact ⟨by kernel_rfl, fun j t ht => by
        rw [Tryd.params5] at ht
        have hm : t ∈ [22, 27, 3] := by simpa using Array.mem_of_getElem? ht
        have hall : ([22, 27, 3].all fun u => !Tryd.prog.wantsStandIn u) = true := by kernel_rfl
        exact (show Tryd.prog.wantsStandIn t = false by simpa using List.all_eq_true.1 hall t hm)⟩)
    (by kernel_rfl)
end Go.Proofs.YtjfalnhmmofdfaaDoor.manifestTorn
namespace Go.Proofs.YtjfalnhmmofdfaaDoor
theorem ManifestTorn_holds : Rows.ManifestTornCardSaid := manifestTorn.card
#print axioms ManifestTorn_holds
end Go.Proofs.YtjfalnhmmofdfaaDoor
