/-
  What is proved: for every key, manifest and row of bytes the law ManifestTells answers true: which bytes the manifest is under the key, and which manifest the row is, are as the document's own answers say (keys of up to 200 bytes, names of up to 100, rows of up to 300; longer ones the law lets by). Conditions: the two tables of package sha and the two of Go's utf8 hold what their initialisers lay (the card ties that to the program text). (Several texts in one: the call that every law makes first, what is told of a manifest that came in, the law's walk, its row and card.)
-/
import Derived.Test.YtjfalnhmmofdfaaDoorSg
import Derived.Test.YtjfalnhmmofdfaaDoorRm
import Derived.Test.YtjfalnhmmofdfaaDoorRg
import Derived.Deep.RegionHeld3
import Derived.Test.YtjfalnhmmofdfaaDoorMk
import Derived.Deep.Strs
import Derived.ProofKit
import Derived.Test.YtjfalnhmmofdfaaDoorCards
import Derived.SevenTiedAt
namespace Go.Proofs.YtjfalnhmmofdfaaDoor
open Go.RowKit
set_option linter.unusedVariables false
set_option linter.unusedSimpArgs false

def mA : Mn := ⟨⟨#[97]⟩, 1, 1, List.replicate 32 0⟩
theorem mA_ok : mA.Ok := ⟨List.length_replicate, byt_rep _, by unfold I64 mA; simp, by unfold I64 mA; simp⟩
theorem mA_name : Nam.validL (Nam.all mA.name) = true := by kernel_rfl
theorem mA_back (ks : List Int) : Good (byteL ks mA) ∧ readM (byteL ks mA) = mA ∧ readT (byteL ks mA) = Sha.tagI ks (bodyL mA) ∧ signB ks (byteL ks mA) = true :=
  byte_back ks List.length_replicate mA_name ⟨by unfold mA; simp, by unfold mA; simp⟩ ⟨by unfold mA; simp, by unfold mA; simp⟩
set_option maxRecDepth 100000 in
theorem other_tag : (decide (Sha.tagI [107] (bodyL mA) = Sha.tagI [108] (bodyL mA))) = false := by decide +kernel
theorem mA_other : signB [108] (byteL [107] mA) = false := by
  obtain ⟨p1, p2, p3, p4, p5, p6, p7⟩ := parts_of mA (Sha.tagI [107] (bodyL mA)) List.length_replicate
  unfold signB byteL
  rw [p6, p7, other_tag, Bool.and_false]
theorem nil_not : ¬ Good [] := fun g => by have := g.1; simp at this
theorem byt_k (x : Int) (h : 0 ≤ x ∧ x ≤ 255) : Byt [x] := byt_one h
theorem key_row (w : World) (x : Int) (h : 0 ≤ x ∧ x ≤ 255) : Row (w.alloc (.cells #[.int .u8 x] 5 (1, 2))) (some ⟨w.heap.size, 0, none⟩) 1 [x] := row_text w [x] (byt_one h) 1 rfl (1, 2)
set_option maxRecDepth 100000 in
set_option maxHeartbeats 2000000 in
theorem live_any (w : World) (ht : Sha.Tabs w) : Calls Tryd.prog 7 #[] w fun e w' => e = .returned (.bool true) ∧ Below w.heap.size w w' := by
  have hz27 := zero27_run
  have hcv := fun (w : World) (x : Int) => Lib.run_convert_bytes_const (P := Tryd.prog) w 22 5 #[.int .u8 x] 1 1 Tryd.underlying22 Tryd.underlying5
  have HR := Lib.hid (read_any none 0 0 [] w (row_nil w) (Nat.le_refl _) (by omega))
  have HS1 := Lib.hid (mA_back [107]).2.2.2
  have HS2 := Lib.hid mA_other
  go_enter Tryd.func7, Tryd.ntmps7
  go_wp2_with (first
    | (go_at_call 8; (with_reducible refine HR.out.mono ?_); rintro e w1 ⟨v1, rfl, o1, b1⟩; clear HR; rw [readE_no nil_not, readM_no nil_not]; obtain ⟨A1, c1, rfl, _, _, _⟩ := o1.form; clear o1; have hne := has_new w1 27 zeroM.cells)
    | (refine Sha.wpList_row rfl 27 _ _ rfl w1.heap.size zeroM.cells rfl rfl 27 _ hne (size27 zero_len) rfl (mn_all _) ?_; intro w2 hs2 hon2; have b2 := Sha.below_only (b1.alloc b1.size (.cells zeroM.cells 27)) hon2 b1.size (b1.alloc b1.size (.cells zeroM.cells 27)).size; have bk2 : Below w.heap.size w (w2.alloc (.cells #[.int .u8 107] 5 (1, 2))) := b2.alloc b2.size _; have HB := Lib.hid (mbytes_any _ 1 1 [107] mA _ (key_row w2 107 (by omega)) (by omega) (by omega) mA_ok (ht.kept bk2)))
    | (refine wpList_build25 rfl (.const (.int .i64 1)) (.const (.int .i64 1)) rfl 1 1 rfl rfl ?_)
    | (refine wpList_build27 rfl (.const (.string ⟨#[97]⟩)) (.tmp 12) rfl ⟨#[97]⟩ 1 1 rfl rfl ?_)
    | (go_at_call 12; refine HB.out.mono ?_; rintro e w3 ⟨v3, rfl, o3, b3⟩; clear HB; have b3' := bk2.trans (b3.mono bk2.size); obtain ⟨A3, c3, rfl, hc3, r3, _⟩ := o3.form; clear o3; have bk3 : Below w.heap.size w (w3.alloc (.cells #[.int .u8 107] 5 (1, 2))) := b3'.alloc b3'.size _; have HG1 := Lib.hid (sig_any _ 1 1 [107] A3 92 c3 (byteL [107] mA) _ (key_row w3 107 (by omega)) (by omega) (by omega) (row_below ((Below.refl _ _).alloc (Nat.le_refl _) _) r3) hc3 (by omega) (ht.kept bk3)); rw [HS1.out] at HG1)
    | (go_at_call 14; (with_reducible refine (lnum_any _ _).mono ?_); rintro e wn ⟨rfl, rfl⟩)
    | (go_at_call 15; (with_reducible refine HG1.out.mono ?_); rintro e w4 ⟨rfl, b4⟩; clear HG1; have b4' := bk3.trans (b4.mono bk3.size); have bk4 : Below w.heap.size w (w4.alloc (.cells #[.int .u8 108] 5 (1, 2))) := b4'.alloc b4'.size _; have r4 := row_below b4 (row_below ((Below.refl _ _).alloc (Nat.le_refl _) (.cells #[.int .u8 107] 5 (1, 2))) r3); have HG2 := Lib.hid (sig_any _ 1 1 [108] A3 92 c3 (byteL [107] mA) _ (key_row w4 108 (by omega)) (by omega) (by omega) (row_below ((Below.refl _ _).alloc (Nat.le_refl _) _) r4) hc3 (by omega) (ht.kept bk4)); rw [HS2.out] at HG2)
    | (go_at_call 15; (with_reducible refine HG2.out.mono ?_); rintro e w5 ⟨rfl, b5⟩; clear HG2))
  go_ret
  exact ⟨rfl, bk4.trans (b5.mono bk4.size)⟩
end Go.Proofs.YtjfalnhmmofdfaaDoor

namespace Go.Proofs.YtjfalnhmmofdfaaDoor
open Go.RowKit
set_option linter.unusedVariables false
set_option linter.unusedSimpArgs false

theorem yields_eq27 {ops : Array Oper} {S : World → Prop} {o : Oper} {a : Act} (hw : Region.wanted o (yielded ops a.tmps) = true) (x y : Operand) (ho : o.op = .binOp .eql 27 x y 27) (m : Mn) (hx : a.eval x = .agg m.cells) (hy : a.eval y = .agg m.cells) (hl : m.dig.length = 32) :
    YieldsIf Tryd.prog ops S o (.bool true) a :=
  Or.inl ⟨hw, fun W hW => by
    have h1 := run_eqGuard_agg (P := Tryd.prog) W .eql 27 x y m.cells m.cells (by kernel_rfl)
    have h2 := run_eql_struct (P := Tryd.prog) W 27 m.cells m.cells
    rw [eq27 m hl W] at h2
    unfold execOp
    simp only [ho, hx, hy, Sem.run_bind, h1, Result.andThen_ok]
    simp [h1, h2]⟩
/-- The rest of a region, under a condition that says more. -/
theorem wpAnyH_strong {P : Program} {md : Region.Mode} {ops : Array Oper} {Q : Exit → Act → World → Prop} {S S' : World → Prop} (hs : ∀ w, S' w → S w) :
    ∀ (fuel : Nat) (listed : Array Bool) (a : Act) (w : World), wpAnyH P md ops Q S' fuel listed a w → wpAnyH P md ops Q S fuel listed a w
  | 0, _, _, _, h => h
  | fuel + 1, _, _, _, h => ⟨h.1, fun i hi => wpOp_mono (fun a' w' h' => ⟨hs w' h'.1, wpAnyH_strong hs fuel _ a' w' h'.2⟩) (h.2 i hi)⟩
end Go.Proofs.YtjfalnhmmofdfaaDoor

namespace Go.Proofs.YtjfalnhmmofdfaaDoor
open Go.ChangeShapes Go.WideShapes Go.ChangeAt Go.RowKit
set_option linter.unusedVariables false
set_option linter.unusedSimpArgs false

set_option maxRecDepth 100000 in
theorem dig_of {H : Type} {enc : TypeId × Value → H} {w : World} {fuel : Nat} {l : List Value} {x : DataW H × List MemPlace} (h : DataW.trod enc Tryd.prog w 0 (fun _ => true) true fuel 23 l = some x) : ∃ ds : List Int, l = nums ds ∧ ds.length = 32 ∧ Byt ds := by
  have e23 : Tryd.prog.cellsOf 23 = 32 := by kernel_rfl
  have e5 : Tryd.prog.cellsOf 5 = 1 := by kernel_rfl
  obtain ⟨xs, m, _, _, hl, hxl, hel⟩ := DataW.trod_array Tryd.underlying23 h
  rw [e23] at hl
  have key : ∀ i, i < 32 → ∃ z : Int, l[i]? = some (.int .u8 z) ∧ 0 ≤ z ∧ z ≤ 255 := by
    intro i hi
    have hE := hel i hi
    rw [e5, Nat.mul_one, List.getElem?_eq_getElem (by omega)] at hE
    obtain ⟨z, e1, _, hw⟩ := DataW.trod_int Tryd.underlying5 hE
    have h0 : ((l.drop i).take 1)[0]? = some (.int .u8 z) := by rw [e1]; rfl
    exact ⟨z, by simpa using h0, bounds_u8 hw⟩
  refine ⟨l.map (fun v => match v with | .int _ z => z | _ => 0), ?_, by rw [List.length_map, hl], ?_⟩
  · refine List.ext_getElem? fun i => ?_
    by_cases hi : i < 32
    · obtain ⟨z, e, _⟩ := key i hi
      simp [nums, e]
    · rw [List.getElem?_eq_none (by omega), List.getElem?_eq_none (by simp [nums]; omega)]
  · intro n hn
    obtain ⟨v, hv, rfl⟩ := List.mem_map.1 hn
    obtain ⟨i, hi, rfl⟩ := List.mem_iff_getElem.1 hv
    obtain ⟨z, e, hz⟩ := key i (by omega)
    rw [List.getElem?_eq_getElem hi] at e
    rw [Option.some.inj e]
    exact hz
set_option maxRecDepth 100000 in
theorem man_of {H : Type} {enc : TypeId × Value → H} {w : World} {fuel : Nat} {cs : Array Value} {x : DataW H × List MemPlace} (h : DataW.trod enc Tryd.prog w 0 (fun _ => true) true fuel 27 (Value.agg cs).cells.toList = some x) : ∃ m : Mn, cs = m.cells ∧ m.Ok ∧ m.name.size ≤ maxLen := by
  have e27 : Tryd.prog.cellsOf 27 = 35 := by kernel_rfl
  have e25 : Tryd.prog.cellsOf 25 = 34 := by kernel_rfl
  have e23 : Tryd.prog.cellsOf 23 = 32 := by kernel_rfl
  have e9 : Tryd.prog.cellsOf 9 = 1 := by kernel_rfl
  have e3 : Tryd.prog.cellsOf 3 = 1 := by kernel_rfl
  obtain ⟨y0, y1, n, _, hl, f0, f1⟩ := trod_struct2 Tryd.underlying27 h
  obtain ⟨z0, z1, z2, k, _, hl1, g0, g1, g2⟩ := Deep.trod_struct3 Tryd.underlying25 f1
  rw [e27] at hl
  simp only [e9, e25, e3, e23] at f0 g0 g1 g2
  obtain ⟨s, c0, _, hs⟩ := DataW.trod_string Tryd.underlying9 f0
  obtain ⟨v, c1, _, hv⟩ := DataW.trod_int Tryd.underlying3 g0
  obtain ⟨q, c2, _, hq⟩ := DataW.trod_int Tryd.underlying3 g1
  obtain ⟨ds, c3, hd, hb⟩ := dig_of g2
  have hbv := bounds_i64 hv
  have hbq := bounds_i64 hq
  refine ⟨⟨s, v, q, ds⟩, ?_, ⟨hd, hb, ⟨hbv.1, hbv.2⟩, ⟨hbq.1, hbq.2⟩⟩, hs⟩
  obtain ⟨l⟩ := cs
  have hl' : l.length = 35 := hl
  simp only [Value.cells] at c0 c1 c2 c3
  match l, hl' with
  | a0 :: a1 :: a2 :: t, ht =>
    have ht3 : t.length = 32 := by simpa using ht
    simp at c0
    simp [List.take_of_length_le, ht3] at c1 c2 c3
    unfold Mn.cells
    simp [c0, c1, c2, c3]
end Go.Proofs.YtjfalnhmmofdfaaDoor

namespace Go.Proofs.YtjfalnhmmofdfaaDoor.manifestTells
open Go.ChangeShapes Go.WideShapes Go.ChangeAt Go.RowKit
set_option linter.unusedVariables false
set_option linter.unusedSimpArgs false

set_option maxRecDepth 100000 in
set_option maxHeartbeats 8000000 in
theorem walk (a0 : Option Addr) (len0 cap0 : Nat) (z0 : List Int) (m : Mn) (a2 : Option Addr) (len2 cap2 : Nat) (z2 : List Int) (w : World) (w0 : Sha.IsRow .u8 w a0 len0 cap0 z0) (hm : m.Ok) (hms : m.name.size ≤ maxLen) (w2 : Sha.IsRow .u8 w a2 len2 cap2 z2) (ht : Sha.Tabs w) :
    Calls Tryd.prog 3 #[.slice a0 len0 cap0, .agg m.cells, .slice a2 len2 cap2] w fun e w' => e = .returned (.bool true) ∧ Below w.heap.size w w' := by
  obtain ⟨hk0, hc0⟩ := Sha.row_of w0
  obtain ⟨hr0, hc2⟩ := Sha.row_of w2
  have hk := sha_row hk0
  have hr := sha_row hr0
  clear hk0 w0 hr0 w2 hms
  have hz27 := zero27_run
  have ba : Below w.heap.size w (w.alloc (.cells m.cells 27)) := (Below.refl _ _).alloc (Nat.le_refl _) _
  have h0 := has_new w 27 m.cells
  have hl := hm.1
  have HLV := Lib.hid (live_any (w.alloc (.cells m.cells 27)) (ht.kept ba))
  by_cases i0 : (200 : Int) < (len0 : Int)
  · go_enter Tryd.func3, Tryd.ntmps3
    go_wp2_with (go_at_call 7; (with_reducible refine HLV.out.mono ?_); rintro e w1 ⟨rfl, b1⟩)
    go_ret
    exact ⟨rfl, ba.trans (b1.mono ba.size)⟩
  by_cases i1 : (100 : Int) < (m.name.size : Int)
  · go_enter Tryd.func3, Tryd.ntmps3
    go_wp2_with (go_at_call 7; (with_reducible refine HLV.out.mono ?_); rintro e w1 ⟨rfl, b1⟩; have c0 : w1.cell? ⟨w.heap.size, 0, none⟩ = some (.string m.name) := (h0.kept b1).at 0)
    go_ret
    exact ⟨rfl, ba.trans (b1.mono ba.size)⟩
  by_cases i2 : (300 : Int) < (len2 : Int)
  · go_enter Tryd.func3, Tryd.ntmps3
    go_wp2_with (go_at_call 7; (with_reducible refine HLV.out.mono ?_); rintro e w1 ⟨rfl, b1⟩; have c0 : w1.cell? ⟨w.heap.size, 0, none⟩ = some (.string m.name) := (h0.kept b1).at 0)
    go_ret
    exact ⟨rfl, ba.trans (b1.mono ba.size)⟩
  have HOK := Lib.hid hm
  generalize z0.take len0 = ks at *
  generalize z2.take len2 = zs at *
  obtain ⟨EN, eE⟩ : ∃ e, readE zs = e := ⟨_, rfl⟩
  obtain ⟨TG, eT⟩ : ∃ t, readT zs = t := ⟨_, rfl⟩
  obtain ⟨RM, eM⟩ : ∃ r, readM zs = r := ⟨_, rfl⟩
  have HML : Hid (RM.dig.length = 32) := Lib.hid (by rw [← eM]; exact readM_len zs)
  have HE := Lib.hid eE
  have HT := Lib.hid eT
  have HM := Lib.hid eM
  obtain ⟨LT, eL⟩ : ∃ l, TG.length = l := ⟨_, rfl⟩
  have HL := Lib.hid eL
  clear eE eT eM eL hm
  go_enter Tryd.func3, Tryd.ntmps3
  go_wp2_with (first
    | (go_at_call 7; (with_reducible refine HLV.out.mono ?_); rintro e w1 ⟨rfl, b1⟩; clear HLV; have h1 := h0.kept b1; have c0 : w1.cell? ⟨w.heap.size, 0, none⟩ = some (.string m.name) := h1.at 0; have b1' := ba.trans (b1.mono ba.size); have n1 := own_nil w1 w1.heap.size; have r1 := row_below b1' hr)
    | (at_builtin; (with_reducible refine wpList_app rfl _ _ rfl w1.heap.size (.slice none 0 0) 0 [] rfl n1 a2 len2 cap2 zs rfl r1 (row_none r1) (by omega) (Nat.le_refl _) ?_); intro v2 w2 o2 g2; have e2 := below_own (Below.refl _ w1) n1 g2 (Nat.le_refl _) (Nat.le_refl _); rw [Nat.zero_add, List.nil_append] at o2; have h2 := h1.kept e2; have b2 := b1'.trans (e2.mono b1'.size); obtain ⟨A2, c2, rfl, hcc2, r2, _⟩ := o2.form; clear o2; have HR := Lib.hid (read_any A2 len2 c2 zs w2 r2 hcc2 (by omega)))
    | (go_at_call 8; (with_reducible refine HR.out.mono ?_); rintro e w3 ⟨v3, rfl, o3, b3⟩; clear HR; rw [HM.out, HE.out]; rw [HT.out, HL.out] at o3; obtain ⟨A3, c3, rfl, hc3, r3, _⟩ := o3.form; clear o3; have b3' := b2.trans (b3.mono b2.size); have h3 := h2.kept b3; have hne := has_new w3 27 zeroM.cells)
    | (refine Sha.wpList_row rfl 27 _ _ rfl w3.heap.size RM.cells rfl rfl 27 _ hne (size27 HML.out) (old27 zero_len HML.out) (mn_all _) ?_; intro w4 hs4 hon4; have q4 := (b3'.alloc b3'.size (.cells zeroM.cells 27)).size; have b4 := Sha.below_only (b3'.alloc b3'.size (.cells zeroM.cells 27)) hon4 b3'.size q4; have h4 : Has w4 w.heap.size 27 m.cells := Has.only (h3.more _) (only_grown hon4) (by have := h3.size; omega); have r3a := row_under (row_below ((Below.refl _ _).alloc (Nat.le_refl _) (.cells zeroM.cells 27)) r3) (row_lies r3) (only_grown hon4) (fun b e => by omega); have HRR := Lib.hid (rread_any a2 len2 cap2 zs w4 (row_below b4 hr) hc2 (by omega)))
    | (go_at_call 9; (with_reducible refine HRR.out.mono ?_); rintro e w5 ⟨v5, rfl, o5, b5⟩; clear HRR; rw [HM.out, HE.out]; rw [HT.out, HL.out] at o5; obtain ⟨A5, c5, rfl, hc5, r5, _⟩ := o5.form; clear o5; have b5' := b4.trans (b5.mono b4.size); have h5 := Has.kept h4 b5; have hs5 := Has.kept (sha_has hs4) b5; have r3b := row_below b5 r3a; have hne5 := has_new w5 27 zeroM.cells)
    | (refine Sha.wpList_row rfl 27 _ _ rfl w5.heap.size RM.cells rfl rfl 27 _ hne5 (size27 HML.out) (old27 zero_len HML.out) (mn_all _) ?_; intro w6 hs6 hon6; have q6 := (b5'.alloc b5'.size (.cells zeroM.cells 27)).size; have b6 := Sha.below_only (b5'.alloc b5'.size (.cells zeroM.cells 27)) hon6 b5'.size q6; have h6 : Has w6 w.heap.size 27 m.cells := Has.only (Has.more h5 _) (only_grown hon6) (by have := h5.size; omega); have hx6 : Has w6 w3.heap.size 27 RM.cells := Has.only (Has.more hs5 _) (only_grown hon6) (by have := hs5.size; omega); have r3c := row_under (row_below ((Below.refl _ _).alloc (Nat.le_refl _) (.cells zeroM.cells 27)) r3b) (row_lies r3b) (only_grown hon6) (fun b e => by omega); have r5c := row_under (row_below ((Below.refl _ _).alloc (Nat.le_refl _) (.cells zeroM.cells 27)) r5) (row_lies r5) (only_grown hon6) (fun b e => by omega)))
  have hd := (Below.refl w6.heap.size w6).drew
  have HBB := Lib.hid (fun W (hW : Below w6.heap.size w6.drew W) => show Below w.heap.size w W from b6.trans ((hd.trans hW).mono b6.size))
  have HH := Lib.hid (fun W (hW : Below w6.heap.size w6.drew W) => show Has W w.heap.size 27 m.cells from Has.kept h6 (hd.trans hW))
  have HX := Lib.hid (fun W (hW : Below w6.heap.size w6.drew W) => show Has W w3.heap.size 27 RM.cells from Has.kept hx6 (hd.trans hW))
  have HY := Lib.hid (fun W (hW : Below w6.heap.size w6.drew W) => show Has W w5.heap.size 27 RM.cells from Has.kept (sha_has hs6) (hd.trans hW))
  have HC3 := Lib.hid (fun W (hW : Below w6.heap.size w6.drew W) => conv_row (c := c3) (row_below (hd.trans hW) r3c))
  have HC5 := Lib.hid (fun W (hW : Below w6.heap.size w6.drew W) => conv_row (c := c5) (row_below (hd.trans hW) r5c))
  have HP1 := Lib.hid (fun W => body_any m W HOK.out)
  have HP2 := Lib.hid (fun W => rbody_any m W HOK.out)
  have HP3 := Lib.hid (fun W (hW : Below w6.heap.size w6.drew W) => mbytes_any a0 len0 cap0 ks m W (row_below (HBB.out W hW) hk) hc0 (by omega) HOK.out (ht.kept (HBB.out W hW)))
  have HP4 := Lib.hid (fun W (hW : Below w6.heap.size w6.drew W) => rmbytes_any a0 len0 cap0 ks m W (row_below (HBB.out W hW) hk) hc0 (by omega) HOK.out)
  have HP5 := Lib.hid (fun W (hW : Below w6.heap.size w6.drew W) => sig_any a0 len0 cap0 ks a2 len2 cap2 zs W (row_below (HBB.out W hW) hk) hc0 (by omega) (row_below (HBB.out W hW) hr) hc2 (by omega) (ht.kept (HBB.out W hW)))
  have HP6 := Lib.hid (fun W (hW : Below w6.heap.size w6.drew W) => rsig_any a0 len0 cap0 ks a2 len2 cap2 zs W (row_below (HBB.out W hW) hk) hc0 (by omega) (row_below (HBB.out W hW) hr) hc2 (by omega))
  have HS7 := Lib.hid (Below.refl w6.heap.size w6.drew)
  generalize signB ks zs = sg at *
  clear h6 hx6 r3c r5c hs6 hon6 h5 hs5 r3b r5 hne5 b5' h4 r3a hs4 hon4 hne h3 b3' r3 h2 b2 r2 e2 n1 r1 b1' h1 c0 b1 h0 ba hd b6 q6 q4 b3 b5 b4 i0 i1 i2 hk hr ht
  refine wp_region_held_drew (S := fun W => Below w6.heap.size w6.drew W) (by kernel_rfl) HS7.out ?_
  intro _
  refine wpAnyH_take (i := 0) (v := .agg m.cells) rfl (by kernel_rfl) (by kernel_rfl) (by kernel_rfl) (fun _ _ _ h => h) (yields_mn (by rfl) (.tmp 4) rfl w.heap.size rfl m (fun W hW => HH.out W (hW)) hl) HS7.out ?_
  simp only [List.getElem_toArray, List.getElem_cons_succ, List.getElem_cons_zero, Act.put, List.setIfInBounds_toArray, List.set_cons_zero, List.set_cons_succ]
  refine wpAnyH_take (i := 3) (v := .agg m.cells) rfl (by kernel_rfl) (by kernel_rfl) (by kernel_rfl) (fun _ _ _ h => h) (yields_mn (by rfl) (.tmp 4) rfl w.heap.size rfl m (fun W hW => HH.out W (hW)) hl) HS7.out ?_
  simp only [List.getElem_toArray, List.getElem_cons_succ, List.getElem_cons_zero, Act.put, List.setIfInBounds_toArray, List.set_cons_zero, List.set_cons_succ]
  have HF7 := HS7
  refine wpAnyH_ready (rs := [1]) (by kernel_rfl) (by simp) ?_
  refine AllReadyH.cons rfl (fun K hK => ?_) AllReadyH.nil
  go_simp
  refine (HP1.out _).mono ?_
  rintro e x11 ⟨y11, rfl, p11, f11⟩
  obtain ⟨B11, d11, rfl, _, r11, _⟩ := p11.form
  have HG11 := Lib.hid (show Below w6.heap.size w6.drew x11 from f11)
  have HF11 := Lib.hid (show Below w6.heap.size w6.drew x11 from HF7.out.trans (f11.mono HF7.out.size))
  have HR11 := Lib.hid r11
  clear p11 f11 r11
  refine hK.out _ _ HG11.out (fun _ => ?_)
  clear hK K
  have HZ11 := Lib.hid (Below.refl x11.heap.size x11)
  refine wpAnyH_strong (S' := fun W => Below x11.heap.size x11 W) (fun W h => HG11.out.trans (h.mono HG11.out.size)) _ _ _ _ ?_
  have HV11 := Lib.hid (fun W (hW : Below x11.heap.size x11 W) => conv_row (c := d11) (row_below hW HR11.out))
  refine wpAnyH_take (i := 2) (v := .string (strOfNums (bodyL m))) rfl (by kernel_rfl) (by kernel_rfl) (by kernel_rfl) (fun _ _ _ h => h) (Or.inl ⟨by rfl, (fun W hW => by have hcv := HV11.out W hW; go_simp)⟩) HZ11.out ?_
  simp only [List.getElem_toArray, List.getElem_cons_succ, List.getElem_cons_zero, Act.put, List.setIfInBounds_toArray, List.set_cons_zero, List.set_cons_succ]
  refine wpAnyH_ready (rs := [4]) (by kernel_rfl) (by simp) ?_
  refine AllReadyH.cons rfl (fun K hK => ?_) AllReadyH.nil
  go_simp
  refine (HP2.out _).mono ?_
  rintro e x12 ⟨y12, rfl, p12, f12⟩
  obtain ⟨B12, d12, rfl, _, r12, _⟩ := p12.form
  have HG12 := Lib.hid (show Below x11.heap.size x11 x12 from f12)
  have HF12 := Lib.hid (show Below w6.heap.size w6.drew x12 from HF11.out.trans (f12.mono HF11.out.size))
  have HR12 := Lib.hid r12
  clear p12 f12 r12
  refine hK.out _ _ HG12.out (fun _ => ?_)
  clear hK K
  have HZ12 := Lib.hid (Below.refl x12.heap.size x12)
  refine wpAnyH_strong (S' := fun W => Below x12.heap.size x12 W) (fun W h => HG12.out.trans (h.mono HG12.out.size)) _ _ _ _ ?_
  have HV12 := Lib.hid (fun W (hW : Below x12.heap.size x12 W) => conv_row (c := d12) (row_below hW HR12.out))
  refine wpAnyH_take (i := 5) (v := .string (strOfNums (bodyL m))) rfl (by kernel_rfl) (by kernel_rfl) (by kernel_rfl) (fun _ _ _ h => h) (Or.inl ⟨by rfl, (fun W hW => by have hcv := HV12.out W hW; go_simp)⟩) HZ12.out ?_
  simp only [List.getElem_toArray, List.getElem_cons_succ, List.getElem_cons_zero, Act.put, List.setIfInBounds_toArray, List.set_cons_zero, List.set_cons_succ]
  refine wpAnyH_take (i := 6) (v := .bool true) rfl (by kernel_rfl) (by kernel_rfl) (by kernel_rfl) (fun _ _ _ h => h) (Or.inl ⟨by rfl, (fun W _ => by go_simp)⟩) HZ12.out ?_
  simp only [List.getElem_toArray, List.getElem_cons_succ, List.getElem_cons_zero, Act.put, List.setIfInBounds_toArray, List.set_cons_zero, List.set_cons_succ]
  refine wpAnyH_take (i := 7) (v := .bool true) rfl (by kernel_rfl) (by kernel_rfl) (by kernel_rfl) (fun _ _ _ h => h) (Or.inl ⟨by rfl, (fun W _ => by go_simp)⟩) HZ12.out ?_
  simp only [List.getElem_toArray, List.getElem_cons_succ, List.getElem_cons_zero, Act.put, List.setIfInBounds_toArray, List.set_cons_zero, List.set_cons_succ]
  refine wpAnyH_take (i := 8) (v := .slice a0 len0 cap0) rfl (by kernel_rfl) (by kernel_rfl) (by kernel_rfl) (fun _ _ _ h => h) (Or.inl ⟨by rfl, (fun W _ => by go_simp)⟩) HZ12.out ?_
  simp only [List.getElem_toArray, List.getElem_cons_succ, List.getElem_cons_zero, Act.put, List.setIfInBounds_toArray, List.set_cons_zero, List.set_cons_succ]
  refine wpAnyH_take (i := 9) (v := .agg m.cells) rfl (by kernel_rfl) (by kernel_rfl) (by kernel_rfl) (fun _ _ _ h => h) (yields_mn (by rfl) (.tmp 4) rfl w.heap.size rfl m (fun W hW => HH.out W (HF12.out.trans (hW.mono HF12.out.size))) hl) HZ12.out ?_
  simp only [List.getElem_toArray, List.getElem_cons_succ, List.getElem_cons_zero, Act.put, List.setIfInBounds_toArray, List.set_cons_zero, List.set_cons_succ]
  refine wpAnyH_take (i := 12) (v := .slice a0 len0 cap0) rfl (by kernel_rfl) (by kernel_rfl) (by kernel_rfl) (fun _ _ _ h => h) (Or.inl ⟨by rfl, (fun W _ => by go_simp)⟩) HZ12.out ?_
  simp only [List.getElem_toArray, List.getElem_cons_succ, List.getElem_cons_zero, Act.put, List.setIfInBounds_toArray, List.set_cons_zero, List.set_cons_succ]
  refine wpAnyH_take (i := 13) (v := .agg m.cells) rfl (by kernel_rfl) (by kernel_rfl) (by kernel_rfl) (fun _ _ _ h => h) (yields_mn (by rfl) (.tmp 4) rfl w.heap.size rfl m (fun W hW => HH.out W (HF12.out.trans (hW.mono HF12.out.size))) hl) HZ12.out ?_
  simp only [List.getElem_toArray, List.getElem_cons_succ, List.getElem_cons_zero, Act.put, List.setIfInBounds_toArray, List.set_cons_zero, List.set_cons_succ]
  refine wpAnyH_ready (rs := [10]) (by kernel_rfl) (by simp) ?_
  refine AllReadyH.cons rfl (fun K hK => ?_) AllReadyH.nil
  go_simp
  refine (HP3.out _ (HF12.out)).mono ?_
  rintro e x13 ⟨y13, rfl, p13, f13⟩
  obtain ⟨B13, d13, rfl, _, r13, _⟩ := p13.form
  have HG13 := Lib.hid (show Below x12.heap.size x12 x13 from f13)
  have HF13 := Lib.hid (show Below w6.heap.size w6.drew x13 from HF12.out.trans (f13.mono HF12.out.size))
  have HR13 := Lib.hid r13
  clear p13 f13 r13
  refine hK.out _ _ HG13.out (fun _ => ?_)
  clear hK K
  have HZ13 := Lib.hid (Below.refl x13.heap.size x13)
  refine wpAnyH_strong (S' := fun W => Below x13.heap.size x13 W) (fun W h => HG13.out.trans (h.mono HG13.out.size)) _ _ _ _ ?_
  have HV13 := Lib.hid (fun W (hW : Below x13.heap.size x13 W) => conv_row (c := d13) (row_below hW HR13.out))
  refine wpAnyH_take (i := 11) (v := .string (strOfNums (byteL ks m))) rfl (by kernel_rfl) (by kernel_rfl) (by kernel_rfl) (fun _ _ _ h => h) (Or.inl ⟨by rfl, (fun W hW => by have hcv := HV13.out W hW; go_simp)⟩) HZ13.out ?_
  simp only [List.getElem_toArray, List.getElem_cons_succ, List.getElem_cons_zero, Act.put, List.setIfInBounds_toArray, List.set_cons_zero, List.set_cons_succ]
  refine wpAnyH_ready (rs := [14]) (by kernel_rfl) (by simp) ?_
  refine AllReadyH.cons rfl (fun K hK => ?_) AllReadyH.nil
  go_simp
  refine (HP4.out _ (HF13.out)).mono ?_
  rintro e x14 ⟨y14, rfl, p14, f14⟩
  obtain ⟨B14, d14, rfl, _, r14, _⟩ := p14.form
  have HG14 := Lib.hid (show Below x13.heap.size x13 x14 from f14)
  have HF14 := Lib.hid (show Below w6.heap.size w6.drew x14 from HF13.out.trans (f14.mono HF13.out.size))
  have HR14 := Lib.hid r14
  clear p14 f14 r14
  refine hK.out _ _ HG14.out (fun _ => ?_)
  clear hK K
  have HZ14 := Lib.hid (Below.refl x14.heap.size x14)
  refine wpAnyH_strong (S' := fun W => Below x14.heap.size x14 W) (fun W h => HG14.out.trans (h.mono HG14.out.size)) _ _ _ _ ?_
  have HV14 := Lib.hid (fun W (hW : Below x14.heap.size x14 W) => conv_row (c := d14) (row_below hW HR14.out))
  have HWW := Lib.hid (fun W (hW : Below x14.heap.size x14 W) => show Below w6.heap.size w6.drew W from HF14.out.trans (hW.mono HF14.out.size))
  refine wpAnyH_take (i := 15) (v := .string (strOfNums (byteL ks m))) rfl (by kernel_rfl) (by kernel_rfl) (by kernel_rfl) (fun _ _ _ h => h) (Or.inl ⟨by rfl, (fun W hW => by have hcv := HV14.out W hW; go_simp)⟩) HZ14.out ?_
  simp only [List.getElem_toArray, List.getElem_cons_succ, List.getElem_cons_zero, Act.put, List.setIfInBounds_toArray, List.set_cons_zero, List.set_cons_succ]
  refine wpAnyH_take (i := 16) (v := .bool true) rfl (by kernel_rfl) (by kernel_rfl) (by kernel_rfl) (fun _ _ _ h => h) (Or.inl ⟨by rfl, (fun W _ => by go_simp)⟩) HZ14.out ?_
  simp only [List.getElem_toArray, List.getElem_cons_succ, List.getElem_cons_zero, Act.put, List.setIfInBounds_toArray, List.set_cons_zero, List.set_cons_succ]
  refine wpAnyH_take (i := 17) (v := .bool true) rfl (by kernel_rfl) (by kernel_rfl) (by kernel_rfl) (fun _ _ _ h => h) (Or.inl ⟨by rfl, (fun W _ => by go_simp)⟩) HZ14.out ?_
  simp only [List.getElem_toArray, List.getElem_cons_succ, List.getElem_cons_zero, Act.put, List.setIfInBounds_toArray, List.set_cons_zero, List.set_cons_succ]
  refine wpAnyH_take (i := 18) (v := .bool true) rfl (by kernel_rfl) (by kernel_rfl) (by kernel_rfl) (fun _ _ _ h => h) (Or.inl ⟨by rfl, (fun W _ => by go_simp)⟩) HZ14.out ?_
  simp only [List.getElem_toArray, List.getElem_cons_succ, List.getElem_cons_zero, Act.put, List.setIfInBounds_toArray, List.set_cons_zero, List.set_cons_succ]
  refine wpAnyH_take (i := 19) (v := .agg RM.cells) rfl (by kernel_rfl) (by kernel_rfl) (by kernel_rfl) (fun _ _ _ h => h) (yields_mn (by rfl) (.tmp 8) rfl w3.heap.size rfl RM (fun W hW => HX.out W (HWW.out W hW)) HML.out) HZ14.out ?_
  simp only [List.getElem_toArray, List.getElem_cons_succ, List.getElem_cons_zero, Act.put, List.setIfInBounds_toArray, List.set_cons_zero, List.set_cons_succ]
  refine wpAnyH_take (i := 20) (v := .agg RM.cells) rfl (by kernel_rfl) (by kernel_rfl) (by kernel_rfl) (fun _ _ _ h => h) (yields_mn (by rfl) (.tmp 11) rfl w5.heap.size rfl RM (fun W hW => HY.out W (HWW.out W hW)) HML.out) HZ14.out ?_
  simp only [List.getElem_toArray, List.getElem_cons_succ, List.getElem_cons_zero, Act.put, List.setIfInBounds_toArray, List.set_cons_zero, List.set_cons_succ]
  refine wpAnyH_take (i := 21) (v := .bool true) rfl (by kernel_rfl) (by kernel_rfl) (by kernel_rfl) (fun _ _ _ h => h) (yields_eq27 (by rfl) (.tmp 66) (.tmp 67) rfl RM rfl rfl HML.out) HZ14.out ?_
  simp only [List.getElem_toArray, List.getElem_cons_succ, List.getElem_cons_zero, Act.put, List.setIfInBounds_toArray, List.set_cons_zero, List.set_cons_succ]
  refine wpAnyH_take (i := 22) (v := .bool true) rfl (by kernel_rfl) (by kernel_rfl) (by kernel_rfl) (fun _ _ _ h => h) (Or.inl ⟨by rfl, (fun W _ => by go_simp)⟩) HZ14.out ?_
  simp only [List.getElem_toArray, List.getElem_cons_succ, List.getElem_cons_zero, Act.put, List.setIfInBounds_toArray, List.set_cons_zero, List.set_cons_succ]
  refine wpAnyH_take (i := 23) (v := .bool true) rfl (by kernel_rfl) (by kernel_rfl) (by kernel_rfl) (fun _ _ _ h => h) (Or.inl ⟨by rfl, (fun W _ => by go_simp)⟩) HZ14.out ?_
  simp only [List.getElem_toArray, List.getElem_cons_succ, List.getElem_cons_zero, Act.put, List.setIfInBounds_toArray, List.set_cons_zero, List.set_cons_succ]
  refine wpAnyH_take (i := 24) (v := .slice A3 LT c3) rfl (by kernel_rfl) (by kernel_rfl) (by kernel_rfl) (fun _ _ _ h => h) (Or.inl ⟨by rfl, (fun W _ => by go_simp)⟩) HZ14.out ?_
  simp only [List.getElem_toArray, List.getElem_cons_succ, List.getElem_cons_zero, Act.put, List.setIfInBounds_toArray, List.set_cons_zero, List.set_cons_succ]
  refine wpAnyH_take (i := 25) (v := .string (strOfNums TG)) rfl (by kernel_rfl) (by kernel_rfl) (by kernel_rfl) (fun _ _ _ h => h) (Or.inl ⟨by rfl, (fun W hW => by have hcv := HC3.out W (HWW.out W hW); go_simp)⟩) HZ14.out ?_
  simp only [List.getElem_toArray, List.getElem_cons_succ, List.getElem_cons_zero, Act.put, List.setIfInBounds_toArray, List.set_cons_zero, List.set_cons_succ]
  refine wpAnyH_take (i := 26) (v := .slice A5 LT c5) rfl (by kernel_rfl) (by kernel_rfl) (by kernel_rfl) (fun _ _ _ h => h) (Or.inl ⟨by rfl, (fun W _ => by go_simp)⟩) HZ14.out ?_
  simp only [List.getElem_toArray, List.getElem_cons_succ, List.getElem_cons_zero, Act.put, List.setIfInBounds_toArray, List.set_cons_zero, List.set_cons_succ]
  refine wpAnyH_take (i := 27) (v := .string (strOfNums TG)) rfl (by kernel_rfl) (by kernel_rfl) (by kernel_rfl) (fun _ _ _ h => h) (Or.inl ⟨by rfl, (fun W hW => by have hcv := HC5.out W (HWW.out W hW); go_simp)⟩) HZ14.out ?_
  simp only [List.getElem_toArray, List.getElem_cons_succ, List.getElem_cons_zero, Act.put, List.setIfInBounds_toArray, List.set_cons_zero, List.set_cons_succ]
  refine wpAnyH_take (i := 28) (v := .bool true) rfl (by kernel_rfl) (by kernel_rfl) (by kernel_rfl) (fun _ _ _ h => h) (Or.inl ⟨by rfl, (fun W _ => by go_simp)⟩) HZ14.out ?_
  simp only [List.getElem_toArray, List.getElem_cons_succ, List.getElem_cons_zero, Act.put, List.setIfInBounds_toArray, List.set_cons_zero, List.set_cons_succ]
  refine wpAnyH_take (i := 29) (v := .bool true) rfl (by kernel_rfl) (by kernel_rfl) (by kernel_rfl) (fun _ _ _ h => h) (Or.inl ⟨by rfl, (fun W _ => by go_simp)⟩) HZ14.out ?_
  simp only [List.getElem_toArray, List.getElem_cons_succ, List.getElem_cons_zero, Act.put, List.setIfInBounds_toArray, List.set_cons_zero, List.set_cons_succ]
  refine wpAnyH_take (i := 30) (v := .bool true) rfl (by kernel_rfl) (by kernel_rfl) (by kernel_rfl) (fun _ _ _ h => h) (Or.inl ⟨by rfl, (fun W _ => by go_simp)⟩) HZ14.out ?_
  simp only [List.getElem_toArray, List.getElem_cons_succ, List.getElem_cons_zero, Act.put, List.setIfInBounds_toArray, List.set_cons_zero, List.set_cons_succ]
  refine wpAnyH_take (i := 31) (v := .int .i64 EN) rfl (by kernel_rfl) (by kernel_rfl) (by kernel_rfl) (fun _ _ _ h => h) (Or.inl ⟨by rfl, (fun W _ => by go_simp)⟩) HZ14.out ?_
  simp only [List.getElem_toArray, List.getElem_cons_succ, List.getElem_cons_zero, Act.put, List.setIfInBounds_toArray, List.set_cons_zero, List.set_cons_succ]
  refine wpAnyH_take (i := 33) (v := .int .i64 EN) rfl (by kernel_rfl) (by kernel_rfl) (by kernel_rfl) (fun _ _ _ h => h) (Or.inl ⟨by rfl, (fun W _ => by go_simp)⟩) HZ14.out ?_
  simp only [List.getElem_toArray, List.getElem_cons_succ, List.getElem_cons_zero, Act.put, List.setIfInBounds_toArray, List.set_cons_zero, List.set_cons_succ]
  refine wpAnyH_ready (rs := [32]) (by kernel_rfl) (by simp) ?_
  refine AllReadyH.cons rfl (fun K hK => ?_) AllReadyH.nil
  go_simp
  refine (lnum_any _ _).mono ?_
  rintro e w9 ⟨rfl, rfl⟩
  refine hK.out _ _ HZ14.out (fun _ => ?_)
  clear hK K
  refine wpAnyH_take (i := 34) (v := .bool true) rfl (by kernel_rfl) (by kernel_rfl) (by kernel_rfl) (fun _ _ _ h => h) (Or.inl ⟨by rfl, (fun W _ => by go_simp)⟩) HZ14.out ?_
  simp only [List.getElem_toArray, List.getElem_cons_succ, List.getElem_cons_zero, Act.put, List.setIfInBounds_toArray, List.set_cons_zero, List.set_cons_succ]
  refine wpAnyH_take (i := 35) (v := .bool true) rfl (by kernel_rfl) (by kernel_rfl) (by kernel_rfl) (fun _ _ _ h => h) (Or.inl ⟨by rfl, (fun W _ => by go_simp)⟩) HZ14.out ?_
  simp only [List.getElem_toArray, List.getElem_cons_succ, List.getElem_cons_zero, Act.put, List.setIfInBounds_toArray, List.set_cons_zero, List.set_cons_succ]
  refine wpAnyH_take (i := 36) (v := .bool true) rfl (by kernel_rfl) (by kernel_rfl) (by kernel_rfl) (fun _ _ _ h => h) (Or.inl ⟨by rfl, (fun W _ => by go_simp)⟩) HZ14.out ?_
  simp only [List.getElem_toArray, List.getElem_cons_succ, List.getElem_cons_zero, Act.put, List.setIfInBounds_toArray, List.set_cons_zero, List.set_cons_succ]
  refine wpAnyH_take (i := 37) (v := .slice a0 len0 cap0) rfl (by kernel_rfl) (by kernel_rfl) (by kernel_rfl) (fun _ _ _ h => h) (Or.inl ⟨by rfl, (fun W _ => by go_simp)⟩) HZ14.out ?_
  simp only [List.getElem_toArray, List.getElem_cons_succ, List.getElem_cons_zero, Act.put, List.setIfInBounds_toArray, List.set_cons_zero, List.set_cons_succ]
  refine wpAnyH_take (i := 38) (v := .slice a2 len2 cap2) rfl (by kernel_rfl) (by kernel_rfl) (by kernel_rfl) (fun _ _ _ h => h) (Or.inl ⟨by rfl, (fun W _ => by go_simp)⟩) HZ14.out ?_
  simp only [List.getElem_toArray, List.getElem_cons_succ, List.getElem_cons_zero, Act.put, List.setIfInBounds_toArray, List.set_cons_zero, List.set_cons_succ]
  refine wpAnyH_take (i := 40) (v := .slice a0 len0 cap0) rfl (by kernel_rfl) (by kernel_rfl) (by kernel_rfl) (fun _ _ _ h => h) (Or.inl ⟨by rfl, (fun W _ => by go_simp)⟩) HZ14.out ?_
  simp only [List.getElem_toArray, List.getElem_cons_succ, List.getElem_cons_zero, Act.put, List.setIfInBounds_toArray, List.set_cons_zero, List.set_cons_succ]
  refine wpAnyH_take (i := 41) (v := .slice a2 len2 cap2) rfl (by kernel_rfl) (by kernel_rfl) (by kernel_rfl) (fun _ _ _ h => h) (Or.inl ⟨by rfl, (fun W _ => by go_simp)⟩) HZ14.out ?_
  simp only [List.getElem_toArray, List.getElem_cons_succ, List.getElem_cons_zero, Act.put, List.setIfInBounds_toArray, List.set_cons_zero, List.set_cons_succ]
  refine wpAnyH_ready (rs := [39]) (by kernel_rfl) (by simp) ?_
  refine AllReadyH.cons rfl (fun K hK => ?_) AllReadyH.nil
  go_simp
  refine (HP5.out _ (HWW.out _ HZ14.out)).mono ?_
  rintro e x15 ⟨rfl, f15⟩; have HZ15 := Lib.hid (show Below x14.heap.size x14 x15 from f15)
  refine hK.out _ _ HZ15.out (fun _ => ?_)
  clear hK K
  refine wpAnyH_ready (rs := [42]) (by kernel_rfl) (by simp) ?_
  refine AllReadyH.cons rfl (fun K hK => ?_) AllReadyH.nil
  go_simp
  refine (HP6.out _ (HWW.out _ HZ15.out)).mono ?_
  rintro e x16 ⟨rfl, f16⟩; have HZ16 := Lib.hid (show Below x14.heap.size x14 x16 from HZ15.out.trans (f16.mono HZ15.out.size))
  refine hK.out _ _ HZ16.out (fun _ => ?_)
  clear hK K
  refine wpAnyH_take (i := 43) (v := .bool true) rfl (by kernel_rfl) (by kernel_rfl) (by kernel_rfl) (fun _ _ _ h => h) (Or.inl ⟨by rfl, (fun W _ => by go_simp)⟩) HZ16.out ?_
  simp only [List.getElem_toArray, List.getElem_cons_succ, List.getElem_cons_zero, Act.put, List.setIfInBounds_toArray, List.set_cons_zero, List.set_cons_succ]
  refine wpAnyH_take (i := 44) (v := .bool true) rfl (by kernel_rfl) (by kernel_rfl) (by kernel_rfl) (fun _ _ _ h => h) (Or.inl ⟨by rfl, (fun W _ => by go_simp)⟩) HZ16.out ?_
  simp only [List.getElem_toArray, List.getElem_cons_succ, List.getElem_cons_zero, Act.put, List.setIfInBounds_toArray, List.set_cons_zero, List.set_cons_succ]
  refine wpAnyH_take (i := 45) (v := .bool true) rfl (by kernel_rfl) (by kernel_rfl) (by kernel_rfl) (fun _ _ _ h => h) (Or.inl ⟨by rfl, (fun W _ => by go_simp)⟩) HZ16.out ?_
  simp only [List.getElem_toArray, List.getElem_cons_succ, List.getElem_cons_zero, Act.put, List.setIfInBounds_toArray, List.set_cons_zero, List.set_cons_succ]
  refine wpAnyH_done (by kernel_rfl) ?_ _
  have HEND := Lib.hid (HBB.out _ (HWW.out _ HZ16.out))
  clear HS7 HF7 HH HX HY HC3 HC5 HP3 HP4 HP5 HP6 HBB HWW HZ14 HZ15 HZ16 f15 f16
  go_wp2
  go_ret
  exact ⟨rfl, HEND.out⟩
end Go.Proofs.YtjfalnhmmofdfaaDoor.manifestTells

namespace Go.Proofs.YtjfalnhmmofdfaaDoor.manifestTells
open Go.ChangeShapes Go.WideShapes Go.ChangeAt Go.RowKit
set_option linter.unusedVariables false

set_option maxRecDepth 100000 in
theorem lifted (os : Os) (started : os.Started) (H : Type) (enc : TypeId × Value → H) :
    ReturnsInHanded {} Tryd.checked os 3 .any (fun w args => (Rows.manifestTellsSpec.pre enc Tryd.prog Tryd.f3 [] false w args ∧ laidMetH Tryd.prog Sha.laid2 w) ∧ sizedMet enc Tryd.prog Tryd.f3 (OpenSpec.ofChange Rows.manifestTellsSpec) false w args)
      (Rows.manifestTellsSpec.post enc Tryd.prog Tryd.f3 false true false false) := by
  refine returnsInHanded_of_change_and (C := Tryd.checked) (X := fun w _ => laidMetH Tryd.prog Sha.laid2 w) (fun _ _ _ hh h => h.of_heap hh) Sha.own started (by kernel_rfl) Tryd.func3
    (ChangeSpec.witness_shaped (enc := enc) (C := Tryd.checked) (os := os) (X := fun w _ => laidMetH Tryd.prog Sha.laid2 w) false (World.laidAll Tryd.prog os Sha.laid2) #[.slice none 0 0, .agg zeroM.cells, .slice none 0 0] 8 (World.laidAll_os _ _ _) (World.shaped_of_ZipB (by kernel_rfl) (by kernel_rfl)) (by kernel_rfl) (by kernel_rfl) (by kernel_rfl) (Sha.lay_met os _)) ?_
  intro W base args ds gs before hval0 hW _ _ hL _
  have hval : ∀ (j : Nat) t v, Tryd.f3.params[j]? = some t → args[j]? = some v → Value.okWide Tryd.prog W .any base t v := hval0
  have hW' := hW
  obtain ⟨p, q, hA0, hV, rfl, hfz, hnd⟩ := hW
  have hA : DataW.TrodAll enc Tryd.prog W 0 (fun _ => true) true Tryd.f3.params.toList args.toList ds p := hA0
  rw [Tryd.params3] at hA hval
  obtain ⟨v0, vs0, d0, ds0, p0, q0, hargs, rfl, rfl, h0, r0⟩ := trodAll_cons hA
  obtain ⟨v1, vs1, d1, ds1, p1, q1, rfl, rfl, rfl, h1, r1⟩ := trodAll_cons r0
  obtain ⟨v2, vs2, d2, ds2, p2, q2, rfl, rfl, rfl, h2, r2⟩ := trodAll_cons r1
  obtain ⟨rfl, rfl, rfl⟩ := trodAll_nil r2
  obtain rfl : args = #[v0, v1, v2] := by cases args; simp_all
  obtain ⟨rfl, rfl⟩ := trodVars_none hV
  obtain ⟨a0, len0, cap0, rfl⟩ := okWide_slice Tryd.underlying22 (hval 0 22 v0 rfl rfl)
  have k0 := h0
  have lt0 : ∀ x ∈ p0, x.block < W.heap.size := by obtain ⟨m, hm⟩ := k0; exact DataW.trod_lt m _ _ _ hm
  obtain ⟨z0, w0⟩ : ∃ zs, Sha.IsRow .u8 W a0 len0 cap0 zs := by
    obtain ⟨fuel, hf⟩ := h0
    rcases open_ints Tryd.underlying22 Tryd.underlying5 (by kernel_rfl) hf with ⟨hcs, _⟩ | ⟨x, l, c, zs, hcs, _, hl, hm, hz, _, hcell, hwz⟩
    · simp [Value.cells] at hcs
      obtain ⟨rfl, rfl, rfl⟩ := hcs
      exact ⟨[], .inl ⟨rfl, rfl, rfl, rfl⟩⟩
    · simp [Value.cells] at hcs
      obtain ⟨rfl, rfl, rfl⟩ := hcs
      exact ⟨zs, .inr ⟨_, rfl, hl, hm, by simpa using hz, hcell, hwz⟩⟩
  obtain ⟨cs1, rfl, hcz1⟩ := okWide_struct Tryd.underlying27 (hval 1 27 v1 rfl rfl)
  have k1 := h1
  have lt1 : ∀ x ∈ p1, x.block < W.heap.size := by obtain ⟨m, hm⟩ := k1; exact DataW.trod_lt m _ _ _ hm
  obtain ⟨m1, rfl, w1, wn1⟩ : ∃ m : Mn, cs1 = m.cells ∧ m.Ok ∧ m.name.size ≤ maxLen := by
    obtain ⟨fuel, hf⟩ := h1
    exact man_of hf
  obtain ⟨a2, len2, cap2, rfl⟩ := okWide_slice Tryd.underlying22 (hval 2 22 v2 rfl rfl)
  have k2 := h2
  have lt2 : ∀ x ∈ p2, x.block < W.heap.size := by obtain ⟨m, hm⟩ := k2; exact DataW.trod_lt m _ _ _ hm
  obtain ⟨z2, w2⟩ : ∃ zs, Sha.IsRow .u8 W a2 len2 cap2 zs := by
    obtain ⟨fuel, hf⟩ := h2
    rcases open_ints Tryd.underlying22 Tryd.underlying5 (by kernel_rfl) hf with ⟨hcs, _⟩ | ⟨x, l, c, zs, hcs, _, hl, hm, hz, _, hcell, hwz⟩
    · simp [Value.cells] at hcs
      obtain ⟨rfl, rfl, rfl⟩ := hcs
      exact ⟨[], .inl ⟨rfl, rfl, rfl, rfl⟩⟩
    · simp [Value.cells] at hcs
      obtain ⟨rfl, rfl, rfl⟩ := hcs
      exact ⟨zs, .inr ⟨_, rfl, hl, hm, by simpa using hz, hcell, hwz⟩⟩
  clear hA0 hval0
  refine (walk a0 len0 cap0 z0 m1 a2 len2 cap2 z2 W w0 w1 wn1 w2 (Sha.tabs_of_laid hL)).mono fun e W' ⟨he, bel⟩ => ?_
  subst he
  exact ⟨_, rfl, _, _, _, [], _, [], hW', trodAll_mk1 (shut_bool Tryd.underlying4 _), (trodAll_cons_mk (Below.trod Sha.laidOut (by kernel_rfl) (of_decide_eq_true (by kernel_rfl)) k0 bel lt0) (trodAll_cons_mk (Below.trod Sha.laidOut (by kernel_rfl) (of_decide_eq_true (by kernel_rfl)) k1 bel lt1) (trodAll_cons_mk (Below.trod Sha.laidOut (by kernel_rfl) (of_decide_eq_true (by kernel_rfl)) k2 bel lt2) trodAll_mk0))), rfl, bel.frame _, fun h => by cases h⟩

theorem over : Rows.ManifestTellsSaid :=
  OpenClaim.holds_of_wide 3 Tryd.f3 rfl rfl rfl rfl rfl rfl rfl ⟨rfl, rfl, rfl, rfl, rfl⟩ rfl rfl rfl rfl rfl (by kernel_rfl) Tryd.func3 (by kernel_rfl)
    (of_decide_eq_true (by kernel_rfl)) (by unfold Func.isWrapper; first | (rw [if_pos (by decide +kernel)]; kernel_rfl) | (rw [if_neg (by decide +kernel)]; exact ⟨rfl, rfl⟩))
    (fun os started H enc _ => lifted os started H enc)

theorem card : Rows.ManifestTellsCardSaid :=
  Claim7.holds_tied_plain_at .later [] [.data, .data, .data, .pinned] true (true, "b38f52f34041b67d6d2caf1fc27a2f404c5d33e81173ef7ec2abf996b45de4b2") false
    over (fun _ h => by cases h) (by kernel_rfl) (fun _ h => by cases h) manifestTells_row_tie rfl ⟨rfl, rfl⟩ (by kernel_rfl) rfl
    (fun f fn hf hfn => by
      obtain rfl : f = 3 := Option.some.inj ((show Tryd.prog.funcNamed Rows.manifestTellsRow.func = some 3 by kernel_rfl).symm.trans hf) |>.symm
      obtain rfl : fn = Tryd.f3 := (Option.some.inj (Tryd.func3.symm.trans hfn)).symm
      exact ⟨by kernel_rfl, fun j t ht => by
        rw [Tryd.params3] at ht
        have hm : t ∈ [22, 27, 22] := by simpa using Array.mem_of_getElem? ht
        have hall : ([22, 27, 22].all fun u => !Tryd.prog.wantsStandIn u) = true := by kernel_rfl
        exact (show Tryd.prog.wantsStandIn t = false by simpa using List.all_eq_true.1 hall t hm)⟩)
    (by kernel_rfl)
end Go.Proofs.YtjfalnhmmofdfaaDoor.manifestTells
namespace Go.Proofs.YtjfalnhmmofdfaaDoor
theorem ManifestTells_holds : Rows.ManifestTellsCardSaid := manifestTells.card
#print axioms ManifestTells_holds
end Go.Proofs.YtjfalnhmmofdfaaDoor
