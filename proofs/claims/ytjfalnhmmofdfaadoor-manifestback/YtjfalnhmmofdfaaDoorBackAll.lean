/-
  What is proved: for every key and manifest the law ManifestBack answers true: a manifest that may be is read as it was written, and is signed by its key (keys of up to 200 bytes; longer ones the law lets by). Conditions: the two tables of package sha and the two of Go's utf8 hold what their initialisers lay (the card ties that to the program text). (Several texts in one: the call that every law makes first, what is told of a manifest that came in, the law's walk, its row and card.)
-/
import Derived.Test.YtjfalnhmmofdfaaDoorSg
import Derived.Test.YtjfalnhmmofdfaaDoorRm
import Derived.Test.YtjfalnhmmofdfaaDoorRg
import Derived.Deep.RegionHeld3
import Derived.Test.YtjfalnhmmofdfaaDoorMk
import Derived.Deep.Strs
import Derived.ProofKit
import Derived.Test.YtjfalnhmmofdfaaDoorCards
import Derived.SevenTiedAt
namespace Go.Proofs.YtjfalnhmmofdfaaDoor
open Go.RowKit
set_option linter.unusedVariables false
set_option linter.unusedSimpArgs false

def mA : Mn := ⟨⟨#[97]⟩, 1, 1, List.replicate 32 0⟩
theorem mA_ok : mA.Ok := ⟨List.length_replicate, byt_rep _, by unfold I64 mA; simp, by unfold I64 mA; simp⟩
theorem mA_name : Nam.validL (Nam.all mA.name) = true := by kernel_rfl
theorem mA_back (ks : List Int) : Good (byteL ks mA) ∧ readM (byteL ks mA) = mA ∧ readT (byteL ks mA) = Sha.tagI ks (bodyL mA) ∧ signB ks (byteL ks mA) = true :=
  byte_back ks List.length_replicate mA_name ⟨by unfold mA; simp, by unfold mA; simp⟩ ⟨by unfold mA; simp, by unfold mA; simp⟩
set_option maxRecDepth 100000 in
theorem other_tag : (decide (Sha.tagI [107] (bodyL mA) = Sha.tagI [108] (bodyL mA))) = false := by decide +kernel
theorem mA_other : signB [108] (byteL [107] mA) = false := by
  obtain ⟨p1, p2, p3, p4, p5, p6, p7⟩ := parts_of mA (Sha.tagI [107] (bodyL mA)) List.length_replicate
  unfold signB byteL
  rw [p6, p7, other_tag, Bool.and_false]
theorem nil_not : ¬ Good [] := fun g => by have := g.1; simp at this
theorem byt_k (x : Int) (h : 0 ≤ x ∧ x ≤ 255) : Byt [x] := byt_one h
theorem key_row (w : World) (x : Int) (h : 0 ≤ x ∧ x ≤ 255) : Row (w.alloc (.cells #[.int .u8 x] 5 (1, 2))) (some ⟨w.heap.size, 0, none⟩) 1 [x] := row_text w [x] (byt_one h) 1 rfl (1, 2)
set_option maxRecDepth 100000 in
set_option maxHeartbeats 2000000 in
theorem live_any (w : World) (ht : Sha.Tabs w) : Calls Tryd.prog 7 #[] w fun e w' => e = .returned (.bool true) ∧ Below w.heap.size w w' := by
  have hz27 := zero27_run
  have hcv := fun (w : World) (x : Int) => Lib.run_convert_bytes_const (P := Tryd.prog) w 22 5 #[.int .u8 x] 1 1 Tryd.underlying22 Tryd.underlying5
  have HR := Lib.hid (read_any none 0 0 [] w (row_nil w) (Nat.le_refl _) (by omega))
  have HS1 := Lib.hid (mA_back [107]).2.2.2
  have HS2 := Lib.hid mA_other
  go_enter Tryd.func7, Tryd.ntmps7
  go_wp2_with (first
    | (go_at_call 8; (with_reducible refine HR.out.mono ?_); rintro e w1 ⟨v1, rfl, o1, b1⟩; clear HR; rw [readE_no nil_not, readM_no nil_not]; obtain ⟨A1, c1, rfl, _, _, _⟩ := o1.form; clear o1; have hne := has_new w1 27 zeroM.cells)
    | (refine Sha.wpList_row rfl 27 _ _ rfl w1.heap.size zeroM.cells rfl rfl 27 _ hne (size27 zero_len) rfl (mn_all _) ?_; intro w2 hs2 hon2; have b2 := Sha.below_only (b1.alloc b1.size (.cells zeroM.cells 27)) hon2 b1.size (b1.alloc b1.size (.cells zeroM.cells 27)).size; have bk2 : Below w.heap.size w (w2.alloc (.cells #[.int .u8 107] 5 (1, 2))) := b2.alloc b2.size _; have HB := Lib.hid (mbytes_any _ 1 1 [107] mA _ (key_row w2 107 (by omega)) (by omega) (by omega) mA_ok (ht.kept bk2)))
    | (refine wpList_build25 rfl (.const (.int .i64 1)) (.const (.int .i64 1)) rfl 1 1 rfl rfl ?_)
    | (refine wpList_build27 rfl (.const (.string ⟨#[97]⟩)) (.tmp 12) rfl ⟨#[97]⟩ 1 1 rfl rfl ?_)
    | (go_at_call 12; refine HB.out.mono ?_; rintro e w3 ⟨v3, rfl, o3, b3⟩; clear HB; have b3' := bk2.trans (b3.mono bk2.size); obtain ⟨A3, c3, rfl, hc3, r3, _⟩ := o3.form; clear o3; have bk3 : Below w.heap.size w (w3.alloc (.cells #[.int .u8 107] 5 (1, 2))) := b3'.alloc b3'.size _; have HG1 := Lib.hid (sig_any _ 1 1 [107] A3 92 c3 (byteL [107] mA) _ (key_row w3 107 (by omega)) (by omega) (by omega) (row_below ((Below.refl _ _).alloc (Nat.le_refl _) _) r3) hc3 (by omega) (ht.kept bk3)); rw [HS1.out] at HG1)
    | (go_at_call 14; (with_reducible refine (lnum_any _ _).mono ?_); rintro e wn ⟨rfl, rfl⟩)
    | (go_at_call 15; (with_reducible refine HG1.out.mono ?_); rintro e w4 ⟨rfl, b4⟩; clear HG1; have b4' := bk3.trans (b4.mono bk3.size); have bk4 : Below w.heap.size w (w4.alloc (.cells #[.int .u8 108] 5 (1, 2))) := b4'.alloc b4'.size _; have r4 := row_below b4 (row_below ((Below.refl _ _).alloc (Nat.le_refl _) (.cells #[.int .u8 107] 5 (1, 2))) r3); have HG2 := Lib.hid (sig_any _ 1 1 [108] A3 92 c3 (byteL [107] mA) _ (key_row w4 108 (by omega)) (by omega) (by omega) (row_below ((Below.refl _ _).alloc (Nat.le_refl _) _) r4) hc3 (by omega) (ht.kept bk4)); rw [HS2.out] at HG2)
    | (go_at_call 15; (with_reducible refine HG2.out.mono ?_); rintro e w5 ⟨rfl, b5⟩; clear HG2))
  go_ret
  exact ⟨rfl, bk4.trans (b5.mono bk4.size)⟩
end Go.Proofs.YtjfalnhmmofdfaaDoor

namespace Go.Proofs.YtjfalnhmmofdfaaDoor
open Go.RowKit
set_option linter.unusedVariables false
set_option linter.unusedSimpArgs false

theorem yields_eq27 {ops : Array Oper} {S : World → Prop} {o : Oper} {a : Act} (hw : Region.wanted o (yielded ops a.tmps) = true) (x y : Operand) (ho : o.op = .binOp .eql 27 x y 27) (m : Mn) (hx : a.eval x = .agg m.cells) (hy : a.eval y = .agg m.cells) (hl : m.dig.length = 32) :
    YieldsIf Tryd.prog ops S o (.bool true) a :=
  Or.inl ⟨hw, fun W hW => by
    have h1 := run_eqGuard_agg (P := Tryd.prog) W .eql 27 x y m.cells m.cells (by kernel_rfl)
    have h2 := run_eql_struct (P := Tryd.prog) W 27 m.cells m.cells
    rw [eq27 m hl W] at h2
    unfold execOp
    simp only [ho, hx, hy, Sem.run_bind, h1, Result.andThen_ok]
    simp [h1, h2]⟩
/-- The rest of a region, under a condition that says more. -/
theorem wpAnyH_strong {P : Program} {md : Region.Mode} {ops : Array Oper} {Q : Exit → Act → World → Prop} {S S' : World → Prop} (hs : ∀ w, S' w → S w) :
    ∀ (fuel : Nat) (listed : Array Bool) (a : Act) (w : World), wpAnyH P md ops Q S' fuel listed a w → wpAnyH P md ops Q S fuel listed a w
  | 0, _, _, _, h => h
  | fuel + 1, _, _, _, h => ⟨h.1, fun i hi => wpOp_mono (fun a' w' h' => ⟨hs w' h'.1, wpAnyH_strong hs fuel _ a' w' h'.2⟩) (h.2 i hi)⟩
end Go.Proofs.YtjfalnhmmofdfaaDoor

namespace Go.Proofs.YtjfalnhmmofdfaaDoor
open Go.ChangeShapes Go.WideShapes Go.ChangeAt Go.RowKit
set_option linter.unusedVariables false
set_option linter.unusedSimpArgs false

set_option maxRecDepth 100000 in
theorem dig_of {H : Type} {enc : TypeId × Value → H} {w : World} {fuel : Nat} {l : List Value} {x : DataW H × List MemPlace} (h : DataW.trod enc Tryd.prog w 0 (fun _ => true) true fuel 23 l = some x) : ∃ ds : List Int, l = nums ds ∧ ds.length = 32 ∧ Byt ds := by
  have e23 : Tryd.prog.cellsOf 23 = 32 := by kernel_rfl
  have e5 : Tryd.prog.cellsOf 5 = 1 := by kernel_rfl
  obtain ⟨xs, m, _, _, hl, hxl, hel⟩ := DataW.trod_array Tryd.underlying23 h
  rw [e23] at hl
  have key : ∀ i, i < 32 → ∃ z : Int, l[i]? = some (.int .u8 z) ∧ 0 ≤ z ∧ z ≤ 255 := by
    intro i hi
    have hE := hel i hi
    rw [e5, Nat.mul_one, List.getElem?_eq_getElem (by omega)] at hE
    obtain ⟨z, e1, _, hw⟩ := DataW.trod_int Tryd.underlying5 hE
    have h0 : ((l.drop i).take 1)[0]? = some (.int .u8 z) := by rw [e1]; rfl
    exact ⟨z, by simpa using h0, bounds_u8 hw⟩
  refine ⟨l.map (fun v => match v with | .int _ z => z | _ => 0), ?_, by rw [List.length_map, hl], ?_⟩
  · refine List.ext_getElem? fun i => ?_
    by_cases hi : i < 32
    · obtain ⟨z, e, _⟩ := key i hi
      simp [nums, e]
    · rw [List.getElem?_eq_none (by omega), List.getElem?_eq_none (by simp [nums]; omega)]
  · intro n hn
    obtain ⟨v, hv, rfl⟩ := List.mem_map.1 hn
    obtain ⟨i, hi, rfl⟩ := List.mem_iff_getElem.1 hv
    obtain ⟨z, e, hz⟩ := key i (by omega)
    rw [List.getElem?_eq_getElem hi] at e
    rw [Option.some.inj e]
    exact hz
set_option maxRecDepth 100000 in
theorem man_of {H : Type} {enc : TypeId × Value → H} {w : World} {fuel : Nat} {cs : Array Value} {x : DataW H × List MemPlace} (h : DataW.trod enc Tryd.prog w 0 (fun _ => true) true fuel 27 (Value.agg cs).cells.toList = some x) : ∃ m : Mn, cs = m.cells ∧ m.Ok ∧ m.name.size ≤ maxLen := by
  have e27 : Tryd.prog.cellsOf 27 = 35 := by kernel_rfl
  have e25 : Tryd.prog.cellsOf 25 = 34 := by kernel_rfl
  have e23 : Tryd.prog.cellsOf 23 = 32 := by kernel_rfl
  have e9 : Tryd.prog.cellsOf 9 = 1 := by kernel_rfl
  have e3 : Tryd.prog.cellsOf 3 = 1 := by kernel_rfl
  obtain ⟨y0, y1, n, _, hl, f0, f1⟩ := trod_struct2 Tryd.underlying27 h
  obtain ⟨z0, z1, z2, k, _, hl1, g0, g1, g2⟩ := Deep.trod_struct3 Tryd.underlying25 f1
  rw [e27] at hl
  simp only [e9, e25, e3, e23] at f0 g0 g1 g2
  obtain ⟨s, c0, _, hs⟩ := DataW.trod_string Tryd.underlying9 f0
  obtain ⟨v, c1, _, hv⟩ := DataW.trod_int Tryd.underlying3 g0
  obtain ⟨q, c2, _, hq⟩ := DataW.trod_int Tryd.underlying3 g1
  obtain ⟨ds, c3, hd, hb⟩ := dig_of g2
  have hbv := bounds_i64 hv
  have hbq := bounds_i64 hq
  refine ⟨⟨s, v, q, ds⟩, ?_, ⟨hd, hb, ⟨hbv.1, hbv.2⟩, ⟨hbq.1, hbq.2⟩⟩, hs⟩
  obtain ⟨l⟩ := cs
  have hl' : l.length = 35 := hl
  simp only [Value.cells] at c0 c1 c2 c3
  match l, hl' with
  | a0 :: a1 :: a2 :: t, ht =>
    have ht3 : t.length = 32 := by simpa using ht
    simp at c0
    simp [List.take_of_length_le, ht3] at c1 c2 c3
    unfold Mn.cells
    simp [c0, c1, c2, c3]
end Go.Proofs.YtjfalnhmmofdfaaDoor

namespace Go.Proofs.YtjfalnhmmofdfaaDoor.manifestBack
open Go.ChangeShapes Go.WideShapes Go.ChangeAt Go.RowKit
set_option linter.unusedVariables false
set_option linter.unusedSimpArgs false

set_option maxRecDepth 100000 in
set_option maxHeartbeats 4000000 in
theorem walk (a0 : Option Addr) (len0 cap0 : Nat) (z0 : List Int) (m : Mn) (w : World) (w0 : Sha.IsRow .u8 w a0 len0 cap0 z0) (hm : m.Ok) (hms : m.name.size ≤ maxLen) (ht : Sha.Tabs w) :
    Calls Tryd.prog 4 #[.slice a0 len0 cap0, .agg m.cells] w fun e w' => e = .returned (.bool true) ∧ Below w.heap.size w w' := by
  obtain ⟨hk0, hc0⟩ := Sha.row_of w0
  have hk := sha_row hk0
  clear hk0 w0
  have hz27 := zero27_run
  have hz2 := Sha.zero24_run
  have ba : Below w.heap.size w (w.alloc (.cells m.cells 27)) := (Below.refl _ _).alloc (Nat.le_refl _) _
  have h0 := has_new w 27 m.cells
  have hl := hm.1
  have HLV := Lib.hid (live_any (w.alloc (.cells m.cells 27)) (ht.kept ba))
  have HRV := Lib.hid (fun w1 => Nam.rvalid_any m.name w1 hms)
  clear hms
  by_cases i0 : (200 : Int) < (len0 : Int)
  · go_enter Tryd.func4, Tryd.ntmps4
    go_wp2_with (go_at_call 7; (with_reducible refine HLV.out.mono ?_); rintro e w1 ⟨rfl, b1⟩)
    go_ret
    exact ⟨rfl, ba.trans (b1.mono ba.size)⟩
  cases hva : Nam.validL (Nam.all m.name) with
  | false =>
    rw [hva] at HRV
    clear hva
    go_enter Tryd.func4, Tryd.ntmps4
    go_wp2_with (first
      | (go_at_call 7; (with_reducible refine HLV.out.mono ?_); rintro e w1 ⟨rfl, b1⟩; have c0 : w1.cell? ⟨w.heap.size, 0, none⟩ = some (.string m.name) := (h0.kept b1).at 0)
      | (go_at_call 17; (with_reducible refine (HRV.out _).mono ?_); rintro e w2 ⟨rfl, b2⟩))
    go_ret
    exact ⟨rfl, (ba.trans (b1.mono ba.size)).trans (b2.mono (ba.trans (b1.mono ba.size)).size)⟩
  | true =>
    have HVA := Lib.hid hva
    rw [hva] at HRV
    clear hva
    by_cases v1 : m.ver < 1
    · go_enter Tryd.func4, Tryd.ntmps4
      go_wp2_with (first
        | (go_at_call 7; (with_reducible refine HLV.out.mono ?_); rintro e w1 ⟨rfl, b1⟩; have c0 : w1.cell? ⟨w.heap.size, 0, none⟩ = some (.string m.name) := (h0.kept b1).at 0)
        | (go_at_call 17; (with_reducible refine (HRV.out _).mono ?_); rintro e w2 ⟨rfl, b2⟩; have c1 : w2.cell? ⟨w.heap.size, 1, none⟩ = some (.int .i64 m.ver) := (Has.kept (Has.kept h0 b1) b2).at 1))
      go_ret
      exact ⟨rfl, (ba.trans (b1.mono ba.size)).trans (b2.mono (ba.trans (b1.mono ba.size)).size)⟩
    by_cases v2 : 1073741824 < m.ver
    · go_enter Tryd.func4, Tryd.ntmps4
      go_wp2_with (first
        | (go_at_call 7; (with_reducible refine HLV.out.mono ?_); rintro e w1 ⟨rfl, b1⟩; have c0 : w1.cell? ⟨w.heap.size, 0, none⟩ = some (.string m.name) := (h0.kept b1).at 0)
        | (go_at_call 17; (with_reducible refine (HRV.out _).mono ?_); rintro e w2 ⟨rfl, b2⟩; have c1 : w2.cell? ⟨w.heap.size, 1, none⟩ = some (.int .i64 m.ver) := (Has.kept (Has.kept h0 b1) b2).at 1))
      go_ret
      exact ⟨rfl, (ba.trans (b1.mono ba.size)).trans (b2.mono (ba.trans (b1.mono ba.size)).size)⟩
    by_cases v3 : m.size < 1
    · go_enter Tryd.func4, Tryd.ntmps4
      go_wp2_with (first
        | (go_at_call 7; (with_reducible refine HLV.out.mono ?_); rintro e w1 ⟨rfl, b1⟩; have c0 : w1.cell? ⟨w.heap.size, 0, none⟩ = some (.string m.name) := (h0.kept b1).at 0)
        | (go_at_call 17; (with_reducible refine (HRV.out _).mono ?_); rintro e w2 ⟨rfl, b2⟩; have c1 : w2.cell? ⟨w.heap.size, 1, none⟩ = some (.int .i64 m.ver) := (Has.kept (Has.kept h0 b1) b2).at 1; have c2 : w2.cell? ⟨w.heap.size, 2, none⟩ = some (.int .i64 m.size) := (Has.kept (Has.kept h0 b1) b2).at 2))
      go_ret
      exact ⟨rfl, (ba.trans (b1.mono ba.size)).trans (b2.mono (ba.trans (b1.mono ba.size)).size)⟩
    by_cases v4 : 1073741824 < m.size
    · go_enter Tryd.func4, Tryd.ntmps4
      go_wp2_with (first
        | (go_at_call 7; (with_reducible refine HLV.out.mono ?_); rintro e w1 ⟨rfl, b1⟩; have c0 : w1.cell? ⟨w.heap.size, 0, none⟩ = some (.string m.name) := (h0.kept b1).at 0)
        | (go_at_call 17; (with_reducible refine (HRV.out _).mono ?_); rintro e w2 ⟨rfl, b2⟩; have c1 : w2.cell? ⟨w.heap.size, 1, none⟩ = some (.int .i64 m.ver) := (Has.kept (Has.kept h0 b1) b2).at 1; have c2 : w2.cell? ⟨w.heap.size, 2, none⟩ = some (.int .i64 m.size) := (Has.kept (Has.kept h0 b1) b2).at 2))
      go_ret
      exact ⟨rfl, (ba.trans (b1.mono ba.size)).trans (b2.mono (ba.trans (b1.mono ba.size)).size)⟩
    obtain ⟨KG, KM, KT, KS⟩ := byte_back (z0.take len0) hl HVA.out ⟨by omega, by omega⟩ ⟨by omega, by omega⟩
    have HOK := Lib.hid hm
    generalize z0.take len0 = ks at *
    have HKM := Lib.hid KM
    have HKT := Lib.hid KT
    have HKS := Lib.hid KS
    have HKE := Lib.hid (readE_yes KG)
    have HBY := Lib.hid (tag_byt hk.2.1 (body_byt hm.2.1))
    have HTL := Lib.hid (Sha.tag_len ks (bodyL m))
    clear KG KM KT KS hm
    go_enter Tryd.func4, Tryd.ntmps4
    go_wp2_with (first
      | (go_at_call 7; (with_reducible refine HLV.out.mono ?_); rintro e w1 ⟨rfl, b1⟩; clear HLV; have c0 : w1.cell? ⟨w.heap.size, 0, none⟩ = some (.string m.name) := (h0.kept b1).at 0; have b1' := ba.trans (b1.mono ba.size))
      | (go_at_call 17; (with_reducible refine (HRV.out _).mono ?_); rintro e w2 ⟨rfl, b2⟩; clear HRV; have h2 := Has.kept (Has.kept h0 b1) b2; have c1 : w2.cell? ⟨w.heap.size, 1, none⟩ = some (.int .i64 m.ver) := h2.at 1; have c2 : w2.cell? ⟨w.heap.size, 2, none⟩ = some (.int .i64 m.size) := h2.at 2; have b2' := b1'.trans (b2.mono b1'.size); have HB := Lib.hid (mbytes_any a0 len0 cap0 ks m w2 (row_below b2' hk) hc0 (by omega) HOK.out (ht.kept b2')))
      | (refine wpList_load_row rfl 27 _ rfl w.heap.size rfl 27 _ (0, 0) _ h2 Tryd.underlying27 rfl (size27 hl) ?_)
      | (go_at_call 12; (with_reducible refine HB.out.mono ?_); rintro e w3 ⟨v3, rfl, o3, b3⟩; clear HB; have b3' := b2'.trans (b3.mono b2'.size); have h3 := h2.kept b3; obtain ⟨A3, c3, rfl, hc3, r3, _⟩ := o3.form; clear o3; have HR := Lib.hid (read_any A3 92 c3 _ w3 r3 hc3 (by omega)))
      | (go_at_call 8; (with_reducible refine HR.out.mono ?_); rintro e w4 ⟨v4, rfl, o4, b4⟩; clear HR; rw [HKM.out, HKE.out]; rw [HKT.out, HTL.out] at o4; obtain ⟨A4, c4, rfl, hc4, r4, _⟩ := o4.form; clear o4; have b4' := b3'.trans (b4.mono b3'.size); have h4 := h3.kept b4; have r3a := row_below b4 r3; have hne := has_new w4 27 zeroM.cells)
      | (refine Sha.wpList_row rfl 27 _ _ rfl w4.heap.size m.cells rfl rfl 27 _ hne (size27 hl) (old27 zero_len hl) (mn_all _) ?_; intro w5 hs5 hon5; have q5 := (b4'.alloc b4'.size (.cells zeroM.cells 27)).size; have b5 := Sha.below_only (b4'.alloc b4'.size (.cells zeroM.cells 27)) hon5 b4'.size q5; have h5 : Has w5 w.heap.size 27 m.cells := Has.only (h4.more _) (only_grown hon5) (by have := h4.size; omega); have r3b := row_under (row_below ((Below.refl _ _).alloc (Nat.le_refl _) (.cells zeroM.cells 27)) r3a) (row_lies r3a) (only_grown hon5) (fun b e => by omega); have r4b := row_under (row_below ((Below.refl _ _).alloc (Nat.le_refl _) (.cells zeroM.cells 27)) r4) (row_lies r4) (only_grown hon5) (fun b e => by omega))
      | (refine wpList_load_row rfl 27 _ rfl w.heap.size rfl 27 _ (0, 0) _ h5 Tryd.underlying27 rfl (size27 hl) ?_; have HBO := Lib.hid (body_any m w5 HOK.out))
      | (go_at_call 10; (with_reducible refine HBO.out.mono ?_); rintro e w6 ⟨v6, rfl, o6, b6⟩; clear HBO; obtain ⟨A6, c6, rfl, hc6, r6, _⟩ := o6.form; clear o6; have b6' := b5.trans (b6.mono b5.size); have HT := Lib.hid (Sha.rtag_any a0 len0 cap0 ks A6 60 c6 (bodyL m) w6 (row_sha (row_below b6' hk)) (row_sha r6) hc0 hc6 (by omega) (by omega)))
      | (go_at_call 18; (with_reducible refine HT.out.mono ?_); rintro e w7 ⟨rfl, b7⟩; clear HT; have b7' := b6'.trans (b7.mono b6'.size); have b57 := b6.trans (b7.mono b6.size); have h7 := Has.kept h5 b57; have hs7 := Has.kept (sha_has hs5) b57; have r3c := row_below b57 r3b; have r4c := row_below b57 r4b; have hne7 := has_new w7 23 Sha.zero24)
      | (refine Sha.wpList_row rfl 23 _ _ rfl w7.heap.size (Sha.nums (Sha.tagI ks (bodyL m))).toArray rfl rfl 23 _ hne7 (Sha.size24 HTL.out) (by rw [Sha.zero24_size, List.size_toArray, Sha.nums_len, HTL.out]) (Sha.nums_all _) ?_; intro w8 hs8 hon8; have q8 := (b7'.alloc b7'.size (.cells Sha.zero24 23)).size; have b8 := Sha.below_only (b7'.alloc b7'.size (.cells Sha.zero24 23)) hon8 b7'.size q8; have h8 : Has w8 w.heap.size 27 m.cells := Has.only (Has.more h7 _) (only_grown hon8) (by have := h7.size; omega); have hx8 : Has w8 w4.heap.size 27 m.cells := Has.only (Has.more hs7 _) (only_grown hon8) (by have := hs7.size; omega); have r3d := row_under (row_below ((Below.refl _ _).alloc (Nat.le_refl _) (.cells Sha.zero24 23)) r3c) (row_lies r3c) (only_grown hon8) (fun b e => by omega); have r4d := row_under (row_below ((Below.refl _ _).alloc (Nat.le_refl _) (.cells Sha.zero24 23)) r4c) (row_lies r4c) (only_grown hon8) (fun b e => by omega); have r8 : Row w8 (some ⟨w7.heap.size, 0, none⟩) 32 (Sha.tagI ks (bodyL m)) := sha_row (Sha.has_row hs8 HTL.out HBY.out)))
    have HH := Lib.hid (fun W (hW : Below w8.heap.size w8.drew W) => show Has W w.heap.size 27 m.cells from Has.kept h8 ((Below.refl _ w8).drew.trans hW))
    have HX := Lib.hid (fun W (hW : Below w8.heap.size w8.drew W) => show Has W w4.heap.size 27 m.cells from Has.kept hx8 ((Below.refl _ w8).drew.trans hW))
    have HC4 := Lib.hid (fun W (hW : Below w8.heap.size w8.drew W) => conv_row (c := c4) (row_below ((Below.refl _ w8).drew.trans hW) r4d))
    have HC8 := Lib.hid (fun W (hW : Below w8.heap.size w8.drew W) => conv_row (c := 32) (row_below ((Below.refl _ w8).drew.trans hW) r8))
    have HSG := Lib.hid (fun W (hW : Below w8.heap.size w8.drew W) => sig_any a0 len0 cap0 ks A3 92 c3 (byteL ks m) W (row_below (b8.trans (((Below.refl _ w8).drew.trans hW).mono b8.size)) hk) hc0 (by omega) (row_below ((Below.refl _ w8).drew.trans hW) r3d) hc3 (by omega) (ht.kept (b8.trans (((Below.refl _ w8).drew.trans hW).mono b8.size))))
    rw [HKS.out] at HSG
    have HB8 := Lib.hid b8
    have HS7 := Lib.hid (Below.refl w8.heap.size w8.drew)
    clear h8 hx8 r3d r4d r8 hs8 hon8 h7 hs7 r3c r4c b7 b6 r6 h5 r3b r4b hs5 hon5 r3a r4 r3 h4 h3 h2 c0 c1 c2 b1 b2 b3 b4 h0 b7' b6' b5 b4' b3' b2' b1' ba b57 b8 v1 v2 v3 v4 hne hne7 hk i0
    refine wp_region_held_drew (S := fun W => Below w8.heap.size w8.drew W) (by kernel_rfl) HS7.out ?_
    intro _
    refine wpAnyH_take (i := 0) (v := .int .i64 0) rfl (by kernel_rfl) (by kernel_rfl) (by kernel_rfl) (fun _ _ _ h => h) (Or.inl ⟨by rfl, (fun W _ => by go_simp)⟩) HS7.out ?_
    simp only [List.getElem_toArray, List.getElem_cons_succ, List.getElem_cons_zero, Act.put, List.setIfInBounds_toArray, List.set_cons_zero, List.set_cons_succ]
    refine wpAnyH_ready (rs := [1]) (by kernel_rfl) (by simp) ?_
    refine AllReadyH.cons rfl (fun K hK => ?_) AllReadyH.nil
    go_simp
    refine (lnum_any _ _).mono ?_
    rintro e w9 ⟨rfl, rfl⟩
    refine hK.out _ _ HS7.out (fun _ => ?_)
    clear hK K
    refine wpAnyH_take (i := 2) (v := .bool true) rfl (by kernel_rfl) (by kernel_rfl) (by kernel_rfl) (fun _ _ _ h => h) (Or.inl ⟨by rfl, (fun W _ => by go_simp)⟩) HS7.out ?_
    simp only [List.getElem_toArray, List.getElem_cons_succ, List.getElem_cons_zero, Act.put, List.setIfInBounds_toArray, List.set_cons_zero, List.set_cons_succ]
    refine wpAnyH_take (i := 3) (v := .bool true) rfl (by kernel_rfl) (by kernel_rfl) (by kernel_rfl) (fun _ _ _ h => h) (Or.inl ⟨by rfl, (fun W _ => by go_simp)⟩) HS7.out ?_
    simp only [List.getElem_toArray, List.getElem_cons_succ, List.getElem_cons_zero, Act.put, List.setIfInBounds_toArray, List.set_cons_zero, List.set_cons_succ]
    refine wpAnyH_take (i := 4) (v := .agg m.cells) rfl (by kernel_rfl) (by kernel_rfl) (by kernel_rfl) (fun _ _ _ h => h) (yields_mn (by rfl) (.tmp 7) rfl w4.heap.size rfl m HX.out hl) HS7.out ?_
    simp only [List.getElem_toArray, List.getElem_cons_succ, List.getElem_cons_zero, Act.put, List.setIfInBounds_toArray, List.set_cons_zero, List.set_cons_succ]
    refine wpAnyH_take (i := 5) (v := .agg m.cells) rfl (by kernel_rfl) (by kernel_rfl) (by kernel_rfl) (fun _ _ _ h => h) (yields_mn (by rfl) (.tmp 3) rfl w.heap.size rfl m HH.out hl) HS7.out ?_
    simp only [List.getElem_toArray, List.getElem_cons_succ, List.getElem_cons_zero, Act.put, List.setIfInBounds_toArray, List.set_cons_zero, List.set_cons_succ]
    refine wpAnyH_take (i := 6) (v := .bool true) rfl (by kernel_rfl) (by kernel_rfl) (by kernel_rfl) (fun _ _ _ h => h) (yields_eq27 (by rfl) (.tmp 67) (.tmp 68) rfl m rfl rfl hl) HS7.out ?_
    simp only [List.getElem_toArray, List.getElem_cons_succ, List.getElem_cons_zero, Act.put, List.setIfInBounds_toArray, List.set_cons_zero, List.set_cons_succ]
    refine wpAnyH_take (i := 7) (v := .bool true) rfl (by kernel_rfl) (by kernel_rfl) (by kernel_rfl) (fun _ _ _ h => h) (Or.inl ⟨by rfl, (fun W _ => by go_simp)⟩) HS7.out ?_
    simp only [List.getElem_toArray, List.getElem_cons_succ, List.getElem_cons_zero, Act.put, List.setIfInBounds_toArray, List.set_cons_zero, List.set_cons_succ]
    refine wpAnyH_take (i := 8) (v := .bool true) rfl (by kernel_rfl) (by kernel_rfl) (by kernel_rfl) (fun _ _ _ h => h) (Or.inl ⟨by rfl, (fun W _ => by go_simp)⟩) HS7.out ?_
    simp only [List.getElem_toArray, List.getElem_cons_succ, List.getElem_cons_zero, Act.put, List.setIfInBounds_toArray, List.set_cons_zero, List.set_cons_succ]
    refine wpAnyH_take (i := 9) (v := .slice A4 32 c4) rfl (by kernel_rfl) (by kernel_rfl) (by kernel_rfl) (fun _ _ _ h => h) (Or.inl ⟨by rfl, (fun W _ => by go_simp)⟩) HS7.out ?_
    simp only [List.getElem_toArray, List.getElem_cons_succ, List.getElem_cons_zero, Act.put, List.setIfInBounds_toArray, List.set_cons_zero, List.set_cons_succ]
    refine wpAnyH_take (i := 10) (v := .string (strOfNums (Sha.tagI ks (bodyL m)))) rfl (by kernel_rfl) (by kernel_rfl) (by kernel_rfl) (fun _ _ _ h => h) (Or.inl ⟨by rfl, (fun W hW => by have hcv := HC4.out W hW; go_simp)⟩) HS7.out ?_
    simp only [List.getElem_toArray, List.getElem_cons_succ, List.getElem_cons_zero, Act.put, List.setIfInBounds_toArray, List.set_cons_zero, List.set_cons_succ]
    refine wpAnyH_take (i := 11) (v := .slice (some ⟨w7.heap.size, 0, none⟩) 32 32) rfl (by kernel_rfl) (by kernel_rfl) (by kernel_rfl) (fun _ _ _ h => h) (Or.inl ⟨by rfl, (fun W _ => by go_simp)⟩) HS7.out ?_
    simp only [List.getElem_toArray, List.getElem_cons_succ, List.getElem_cons_zero, Act.put, List.setIfInBounds_toArray, List.set_cons_zero, List.set_cons_succ]
    refine wpAnyH_take (i := 12) (v := .string (strOfNums (Sha.tagI ks (bodyL m)))) rfl (by kernel_rfl) (by kernel_rfl) (by kernel_rfl) (fun _ _ _ h => h) (Or.inl ⟨by rfl, (fun W hW => by have hcv := HC8.out W hW; go_simp)⟩) HS7.out ?_
    simp only [List.getElem_toArray, List.getElem_cons_succ, List.getElem_cons_zero, Act.put, List.setIfInBounds_toArray, List.set_cons_zero, List.set_cons_succ]
    refine wpAnyH_take (i := 13) (v := .bool true) rfl (by kernel_rfl) (by kernel_rfl) (by kernel_rfl) (fun _ _ _ h => h) (Or.inl ⟨by rfl, (fun W _ => by go_simp)⟩) HS7.out ?_
    simp only [List.getElem_toArray, List.getElem_cons_succ, List.getElem_cons_zero, Act.put, List.setIfInBounds_toArray, List.set_cons_zero, List.set_cons_succ]
    refine wpAnyH_take (i := 14) (v := .bool true) rfl (by kernel_rfl) (by kernel_rfl) (by kernel_rfl) (fun _ _ _ h => h) (Or.inl ⟨by rfl, (fun W _ => by go_simp)⟩) HS7.out ?_
    simp only [List.getElem_toArray, List.getElem_cons_succ, List.getElem_cons_zero, Act.put, List.setIfInBounds_toArray, List.set_cons_zero, List.set_cons_succ]
    refine wpAnyH_take (i := 15) (v := .bool true) rfl (by kernel_rfl) (by kernel_rfl) (by kernel_rfl) (fun _ _ _ h => h) (Or.inl ⟨by rfl, (fun W _ => by go_simp)⟩) HS7.out ?_
    simp only [List.getElem_toArray, List.getElem_cons_succ, List.getElem_cons_zero, Act.put, List.setIfInBounds_toArray, List.set_cons_zero, List.set_cons_succ]
    refine wpAnyH_take (i := 16) (v := .slice a0 len0 cap0) rfl (by kernel_rfl) (by kernel_rfl) (by kernel_rfl) (fun _ _ _ h => h) (Or.inl ⟨by rfl, (fun W _ => by go_simp)⟩) HS7.out ?_
    simp only [List.getElem_toArray, List.getElem_cons_succ, List.getElem_cons_zero, Act.put, List.setIfInBounds_toArray, List.set_cons_zero, List.set_cons_succ]
    refine wpAnyH_take (i := 17) (v := .slice A3 92 c3) rfl (by kernel_rfl) (by kernel_rfl) (by kernel_rfl) (fun _ _ _ h => h) (Or.inl ⟨by rfl, (fun W _ => by go_simp)⟩) HS7.out ?_
    simp only [List.getElem_toArray, List.getElem_cons_succ, List.getElem_cons_zero, Act.put, List.setIfInBounds_toArray, List.set_cons_zero, List.set_cons_succ]
    refine wpAnyH_ready (rs := [18]) (by kernel_rfl) (by simp) ?_
    refine AllReadyH.cons rfl (fun K hK => ?_) AllReadyH.nil
    go_simp
    refine (HSG.out _ HS7.out).mono ?_
    rintro e w10 ⟨rfl, b10⟩; have HS8 := Lib.hid (show Below w8.heap.size w8.drew w10 from HS7.out.trans (b10.mono (Nat.le_refl _)))
    refine hK.out _ _ HS8.out (fun _ => ?_)
    clear hK K
    refine wpAnyH_take (i := 19) (v := .bool true) rfl (by kernel_rfl) (by kernel_rfl) (by kernel_rfl) (fun _ _ _ h => h) (Or.inl ⟨by rfl, (fun W _ => by go_simp)⟩) HS8.out ?_
    simp only [List.getElem_toArray, List.getElem_cons_succ, List.getElem_cons_zero, Act.put, List.setIfInBounds_toArray, List.set_cons_zero, List.set_cons_succ]
    refine wpAnyH_take (i := 20) (v := .bool true) rfl (by kernel_rfl) (by kernel_rfl) (by kernel_rfl) (fun _ _ _ h => h) (Or.inl ⟨by rfl, (fun W _ => by go_simp)⟩) HS8.out ?_
    simp only [List.getElem_toArray, List.getElem_cons_succ, List.getElem_cons_zero, Act.put, List.setIfInBounds_toArray, List.set_cons_zero, List.set_cons_succ]
    refine wpAnyH_done (by kernel_rfl) ?_ _
    have HE := Lib.hid (HB8.out.trans (((Below.refl _ w8).drew.trans HS8.out).mono HB8.out.size))
    clear HS7 HS8 HH HX HC4 HC8 HSG b10
    go_wp2
    go_ret
    exact ⟨rfl, HE.out⟩
end Go.Proofs.YtjfalnhmmofdfaaDoor.manifestBack

namespace Go.Proofs.YtjfalnhmmofdfaaDoor.manifestBack
open Go.ChangeShapes Go.WideShapes Go.ChangeAt Go.RowKit
set_option linter.unusedVariables false

set_option maxRecDepth 100000 in
theorem lifted (os : Os) (started : os.Started) (H : Type) (enc : TypeId × Value → H) :
    ReturnsInHanded {} Tryd.checked os 4 .any (fun w args => (Rows.manifestBackSpec.pre enc Tryd.prog Tryd.f4 [] false w args ∧ laidMetH Tryd.prog Sha.laid2 w) ∧ sizedMet enc Tryd.prog Tryd.f4 (OpenSpec.ofChange Rows.manifestBackSpec) false w args)
      (Rows.manifestBackSpec.post enc Tryd.prog Tryd.f4 false true false false) := by
  refine returnsInHanded_of_change_and (C := Tryd.checked) (X := fun w _ => laidMetH Tryd.prog Sha.laid2 w) (fun _ _ _ hh h => h.of_heap hh) Sha.own started (by kernel_rfl) Tryd.func4
    (ChangeSpec.witness_shaped (enc := enc) (C := Tryd.checked) (os := os) (X := fun w _ => laidMetH Tryd.prog Sha.laid2 w) false (World.laidAll Tryd.prog os Sha.laid2) #[.slice none 0 0, .agg zeroM.cells] 8 (World.laidAll_os _ _ _) (World.shaped_of_ZipB (by kernel_rfl) (by kernel_rfl)) (by kernel_rfl) (by kernel_rfl) (by kernel_rfl) (Sha.lay_met os _)) ?_
  intro W base args ds gs before hval0 hW _ _ hL _
  have hval : ∀ (j : Nat) t v, Tryd.f4.params[j]? = some t → args[j]? = some v → Value.okWide Tryd.prog W .any base t v := hval0
  have hW' := hW
  obtain ⟨p, q, hA0, hV, rfl, hfz, hnd⟩ := hW
  have hA : DataW.TrodAll enc Tryd.prog W 0 (fun _ => true) true Tryd.f4.params.toList args.toList ds p := hA0
  rw [Tryd.params4] at hA hval
  obtain ⟨v0, vs0, d0, ds0, p0, q0, hargs, rfl, rfl, h0, r0⟩ := trodAll_cons hA
  obtain ⟨v1, vs1, d1, ds1, p1, q1, rfl, rfl, rfl, h1, r1⟩ := trodAll_cons r0
  obtain ⟨rfl, rfl, rfl⟩ := trodAll_nil r1
  obtain rfl : args = #[v0, v1] := by cases args; simp_all
  obtain ⟨rfl, rfl⟩ := trodVars_none hV
  obtain ⟨a0, len0, cap0, rfl⟩ := okWide_slice Tryd.underlying22 (hval 0 22 v0 rfl rfl)
  have k0 := h0
  have lt0 : ∀ x ∈ p0, x.block < W.heap.size := by obtain ⟨m, hm⟩ := k0; exact DataW.trod_lt m _ _ _ hm
  obtain ⟨z0, w0⟩ : ∃ zs, Sha.IsRow .u8 W a0 len0 cap0 zs := by
    obtain ⟨fuel, hf⟩ := h0
    rcases open_ints Tryd.underlying22 Tryd.underlying5 (by kernel_rfl) hf with ⟨hcs, _⟩ | ⟨x, l, c, zs, hcs, _, hl, hm, hz, _, hcell, hwz⟩
    · simp [Value.cells] at hcs
      obtain ⟨rfl, rfl, rfl⟩ := hcs
      exact ⟨[], .inl ⟨rfl, rfl, rfl, rfl⟩⟩
    · simp [Value.cells] at hcs
      obtain ⟨rfl, rfl, rfl⟩ := hcs
      exact ⟨zs, .inr ⟨_, rfl, hl, hm, by simpa using hz, hcell, hwz⟩⟩
  obtain ⟨cs1, rfl, hcz1⟩ := okWide_struct Tryd.underlying27 (hval 1 27 v1 rfl rfl)
  have k1 := h1
  have lt1 : ∀ x ∈ p1, x.block < W.heap.size := by obtain ⟨m, hm⟩ := k1; exact DataW.trod_lt m _ _ _ hm
  obtain ⟨m1, rfl, w1, wn1⟩ : ∃ m : Mn, cs1 = m.cells ∧ m.Ok ∧ m.name.size ≤ maxLen := by
    obtain ⟨fuel, hf⟩ := h1
    exact man_of hf
  clear hA0 hval0
  refine (walk a0 len0 cap0 z0 m1 W w0 w1 wn1 (Sha.tabs_of_laid hL)).mono fun e W' ⟨he, bel⟩ => ?_
  subst he
  exact ⟨_, rfl, _, _, _, [], _, [], hW', trodAll_mk1 (shut_bool Tryd.underlying4 _), (trodAll_cons_mk (Below.trod Sha.laidOut (by kernel_rfl) (of_decide_eq_true (by kernel_rfl)) k0 bel lt0) (trodAll_cons_mk (Below.trod Sha.laidOut (by kernel_rfl) (of_decide_eq_true (by kernel_rfl)) k1 bel lt1) trodAll_mk0)), rfl, bel.frame _, fun h => by cases h⟩

theorem over : Rows.ManifestBackSaid :=
  OpenClaim.holds_of_wide 4 Tryd.f4 rfl rfl rfl rfl rfl rfl rfl ⟨rfl, rfl, rfl, rfl, rfl⟩ rfl rfl rfl rfl rfl (by kernel_rfl) Tryd.func4 (by kernel_rfl)
    (of_decide_eq_true (by kernel_rfl)) (by unfold Func.isWrapper; first | (rw [if_pos (by decide +kernel)]; kernel_rfl) | (rw [if_neg (by decide +kernel)]; exact ⟨rfl, rfl⟩))
    (fun os started H enc _ => lifted os started H enc)

theorem card : Rows.ManifestBackCardSaid :=
  Claim7.holds_tied_plain_at .later [] [.data, .data, .data, .pinned] true (true, "b38f52f34041b67d6d2caf1fc27a2f404c5d33e81173ef7ec2abf996b45de4b2") false
    over (fun _ h => by cases h) (by kernel_rfl) (fun _ h => by cases h) manifestBack_row_tie rfl ⟨rfl, rfl⟩ (by kernel_rfl) rfl
    (fun f fn hf hfn => by
      obtain rfl : f = 4 := Option.some.inj ((show Tryd.prog.funcNamed Rows.manifestBackRow.func = some 4 by kernel_rfl).symm.trans hf) |>.symm
      obtain rfl : fn = Tryd.f4 := (Option.some.inj (Tryd.func4.symm.trans hfn)).symm
      exact ⟨by kernel_rfl, fun j t ht => by
        rw [Tryd.params4] at ht
        have hm : t ∈ [22, 27] := by simpa using Array.mem_of_getElem? ht
        have hall : ([22, 27].all fun u => !Tryd.prog.wantsStandIn u) = true := by kernel_rfl
        exact (show Tryd.prog.wantsStandIn t = false by simpa using List.all_eq_true.1 hall t hm)⟩)
    (by kernel_rfl)
end Go.Proofs.YtjfalnhmmofdfaaDoor.manifestBack
namespace Go.Proofs.YtjfalnhmmofdfaaDoor
theorem ManifestBack_holds : Rows.ManifestBackCardSaid := manifestBack.card
#print axioms ManifestBack_holds
end Go.Proofs.YtjfalnhmmofdfaaDoor
