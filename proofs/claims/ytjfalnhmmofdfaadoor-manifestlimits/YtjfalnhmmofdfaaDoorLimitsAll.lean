/-
  What is proved: for every number the law ManifestLimits answers true: which of ten manifests may be. Conditions: the two tables of package sha and the two of Go's utf8 hold what their initialisers lay (the card ties that to the program text). (Several texts in one: the call that every law makes first, what is told of a manifest that came in, the law's walk, its row and card.)
-/
import Derived.Test.YtjfalnhmmofdfaaDoorSg
import Derived.Test.YtjfalnhmmofdfaaDoorRm
import Derived.Test.YtjfalnhmmofdfaaDoorRg
import Derived.Deep.RegionHeld3
import Derived.Test.YtjfalnhmmofdfaaDoorMk
import Derived.Deep.Strs
import Derived.ProofKit
import Derived.Great.Walk
import Derived.Test.YtjfalnhmmofdfaaDoorCards
import Derived.Deep.Cut
import Derived.SevenTiedAt
namespace Go.Proofs.YtjfalnhmmofdfaaDoor
open Go.RowKit
set_option linter.unusedVariables false
set_option linter.unusedSimpArgs false

def mA : Mn := ⟨⟨#[97]⟩, 1, 1, List.replicate 32 0⟩
theorem mA_ok : mA.Ok := ⟨List.length_replicate, byt_rep _, by unfold I64 mA; simp, by unfold I64 mA; simp⟩
theorem mA_name : Nam.validL (Nam.all mA.name) = true := by kernel_rfl
theorem mA_back (ks : List Int) : Good (byteL ks mA) ∧ readM (byteL ks mA) = mA ∧ readT (byteL ks mA) = Sha.tagI ks (bodyL mA) ∧ signB ks (byteL ks mA) = true :=
  byte_back ks List.length_replicate mA_name ⟨by unfold mA; simp, by unfold mA; simp⟩ ⟨by unfold mA; simp, by unfold mA; simp⟩
set_option maxRecDepth 100000 in
theorem other_tag : (decide (Sha.tagI [107] (bodyL mA) = Sha.tagI [108] (bodyL mA))) = false := by decide +kernel
theorem mA_other : signB [108] (byteL [107] mA) = false := by
  obtain ⟨p1, p2, p3, p4, p5, p6, p7⟩ := parts_of mA (Sha.tagI [107] (bodyL mA)) List.length_replicate
  unfold signB byteL
  rw [p6, p7, other_tag, Bool.and_false]
theorem nil_not : ¬ Good [] := fun g => by have := g.1; simp at this
theorem byt_k (x : Int) (h : 0 ≤ x ∧ x ≤ 255) : Byt [x] := byt_one h
theorem key_row (w : World) (x : Int) (h : 0 ≤ x ∧ x ≤ 255) : Row (w.alloc (.cells #[.int .u8 x] 5 (1, 2))) (some ⟨w.heap.size, 0, none⟩) 1 [x] := row_text w [x] (byt_one h) 1 rfl (1, 2)
set_option maxRecDepth 100000 in
set_option maxHeartbeats 2000000 in
theorem live_any (w : World) (ht : Sha.Tabs w) : Calls Tryd.prog 7 #[] w fun e w' => e = .returned (.bool true) ∧ Below w.heap.size w w' := by
  have hz27 := zero27_run
  have hcv := fun (w : World) (x : Int) => Lib.run_convert_bytes_const (P := Tryd.prog) w 22 5 #[.int .u8 x] 1 1 Tryd.underlying22 Tryd.underlying5
  have HR := Lib.hid (read_any none 0 0 [] w (row_nil w) (Nat.le_refl _) (by omega))
  have HS1 := Lib.hid (mA_back [107]).2.2.2
  have HS2 := Lib.hid mA_other
  go_enter Tryd.func7, Tryd.ntmps7
  go_wp2_with (first
    | (go_at_call 8; (with_reducible refine HR.out.mono ?_); rintro e w1 ⟨v1, rfl, o1, b1⟩; clear HR; rw [readE_no nil_not, readM_no nil_not]; obtain ⟨A1, c1, rfl, _, _, _⟩ := o1.form; clear o1; have hne := has_new w1 27 zeroM.cells)
    | (refine Sha.wpList_row rfl 27 _ _ rfl w1.heap.size zeroM.cells rfl rfl 27 _ hne (size27 zero_len) rfl (mn_all _) ?_; intro w2 hs2 hon2; have b2 := Sha.below_only (b1.alloc b1.size (.cells zeroM.cells 27)) hon2 b1.size (b1.alloc b1.size (.cells zeroM.cells 27)).size; have bk2 : Below w.heap.size w (w2.alloc (.cells #[.int .u8 107] 5 (1, 2))) := b2.alloc b2.size _; have HB := Lib.hid (mbytes_any _ 1 1 [107] mA _ (key_row w2 107 (by omega)) (by omega) (by omega) mA_ok (ht.kept bk2)))
    | (refine wpList_build25 rfl (.const (.int .i64 1)) (.const (.int .i64 1)) rfl 1 1 rfl rfl ?_)
    | (refine wpList_build27 rfl (.const (.string ⟨#[97]⟩)) (.tmp 12) rfl ⟨#[97]⟩ 1 1 rfl rfl ?_)
    | (go_at_call 12; refine HB.out.mono ?_; rintro e w3 ⟨v3, rfl, o3, b3⟩; clear HB; have b3' := bk2.trans (b3.mono bk2.size); obtain ⟨A3, c3, rfl, hc3, r3, _⟩ := o3.form; clear o3; have bk3 : Below w.heap.size w (w3.alloc (.cells #[.int .u8 107] 5 (1, 2))) := b3'.alloc b3'.size _; have HG1 := Lib.hid (sig_any _ 1 1 [107] A3 92 c3 (byteL [107] mA) _ (key_row w3 107 (by omega)) (by omega) (by omega) (row_below ((Below.refl _ _).alloc (Nat.le_refl _) _) r3) hc3 (by omega) (ht.kept bk3)); rw [HS1.out] at HG1)
    | (go_at_call 14; (with_reducible refine (lnum_any _ _).mono ?_); rintro e wn ⟨rfl, rfl⟩)
    | (go_at_call 15; (with_reducible refine HG1.out.mono ?_); rintro e w4 ⟨rfl, b4⟩; clear HG1; have b4' := bk3.trans (b4.mono bk3.size); have bk4 : Below w.heap.size w (w4.alloc (.cells #[.int .u8 108] 5 (1, 2))) := b4'.alloc b4'.size _; have r4 := row_below b4 (row_below ((Below.refl _ _).alloc (Nat.le_refl _) (.cells #[.int .u8 107] 5 (1, 2))) r3); have HG2 := Lib.hid (sig_any _ 1 1 [108] A3 92 c3 (byteL [107] mA) _ (key_row w4 108 (by omega)) (by omega) (by omega) (row_below ((Below.refl _ _).alloc (Nat.le_refl _) _) r4) hc3 (by omega) (ht.kept bk4)); rw [HS2.out] at HG2)
    | (go_at_call 15; (with_reducible refine HG2.out.mono ?_); rintro e w5 ⟨rfl, b5⟩; clear HG2))
  go_ret
  exact ⟨rfl, bk4.trans (b5.mono bk4.size)⟩
end Go.Proofs.YtjfalnhmmofdfaaDoor

namespace Go.Proofs.YtjfalnhmmofdfaaDoor
open Go.RowKit
set_option linter.unusedVariables false
set_option linter.unusedSimpArgs false

theorem yields_eq27 {ops : Array Oper} {S : World → Prop} {o : Oper} {a : Act} (hw : Region.wanted o (yielded ops a.tmps) = true) (x y : Operand) (ho : o.op = .binOp .eql 27 x y 27) (m : Mn) (hx : a.eval x = .agg m.cells) (hy : a.eval y = .agg m.cells) (hl : m.dig.length = 32) :
    YieldsIf Tryd.prog ops S o (.bool true) a :=
  Or.inl ⟨hw, fun W hW => by
    have h1 := run_eqGuard_agg (P := Tryd.prog) W .eql 27 x y m.cells m.cells (by kernel_rfl)
    have h2 := run_eql_struct (P := Tryd.prog) W 27 m.cells m.cells
    rw [eq27 m hl W] at h2
    unfold execOp
    simp only [ho, hx, hy, Sem.run_bind, h1, Result.andThen_ok]
    simp [h1, h2]⟩
/-- The rest of a region, under a condition that says more. -/
theorem wpAnyH_strong {P : Program} {md : Region.Mode} {ops : Array Oper} {Q : Exit → Act → World → Prop} {S S' : World → Prop} (hs : ∀ w, S' w → S w) :
    ∀ (fuel : Nat) (listed : Array Bool) (a : Act) (w : World), wpAnyH P md ops Q S' fuel listed a w → wpAnyH P md ops Q S fuel listed a w
  | 0, _, _, _, h => h
  | fuel + 1, _, _, _, h => ⟨h.1, fun i hi => wpOp_mono (fun a' w' h' => ⟨hs w' h'.1, wpAnyH_strong hs fuel _ a' w' h'.2⟩) (h.2 i hi)⟩
end Go.Proofs.YtjfalnhmmofdfaaDoor

namespace Go.Proofs.YtjfalnhmmofdfaaDoor
open Go.ChangeShapes Go.WideShapes Go.ChangeAt Go.RowKit
set_option linter.unusedVariables false
set_option linter.unusedSimpArgs false

set_option maxRecDepth 100000 in
theorem dig_of {H : Type} {enc : TypeId × Value → H} {w : World} {fuel : Nat} {l : List Value} {x : DataW H × List MemPlace} (h : DataW.trod enc Tryd.prog w 0 (fun _ => true) true fuel 23 l = some x) : ∃ ds : List Int, l = nums ds ∧ ds.length = 32 ∧ Byt ds := by
  have e23 : Tryd.prog.cellsOf 23 = 32 := by kernel_rfl
  have e5 : Tryd.prog.cellsOf 5 = 1 := by kernel_rfl
  obtain ⟨xs, m, _, _, hl, hxl, hel⟩ := DataW.trod_array Tryd.underlying23 h
  rw [e23] at hl
  have key : ∀ i, i < 32 → ∃ z : Int, l[i]? = some (.int .u8 z) ∧ 0 ≤ z ∧ z ≤ 255 := by
    intro i hi
    have hE := hel i hi
    rw [e5, Nat.mul_one, List.getElem?_eq_getElem (by omega)] at hE
    obtain ⟨z, e1, _, hw⟩ := DataW.trod_int Tryd.underlying5 hE
    have h0 : ((l.drop i).take 1)[0]? = some (.int .u8 z) := by rw [e1]; rfl
    exact ⟨z, by simpa using h0, bounds_u8 hw⟩
  refine ⟨l.map (fun v => match v with | .int _ z => z | _ => 0), ?_, by rw [List.length_map, hl], ?_⟩
  · refine List.ext_getElem? fun i => ?_
    by_cases hi : i < 32
    · obtain ⟨z, e, _⟩ := key i hi
      simp [nums, e]
    · rw [List.getElem?_eq_none (by omega), List.getElem?_eq_none (by simp [nums]; omega)]
  · intro n hn
    obtain ⟨v, hv, rfl⟩ := List.mem_map.1 hn
    obtain ⟨i, hi, rfl⟩ := List.mem_iff_getElem.1 hv
    obtain ⟨z, e, hz⟩ := key i (by omega)
    rw [List.getElem?_eq_getElem hi] at e
    rw [Option.some.inj e]
    exact hz
set_option maxRecDepth 100000 in
theorem man_of {H : Type} {enc : TypeId × Value → H} {w : World} {fuel : Nat} {cs : Array Value} {x : DataW H × List MemPlace} (h : DataW.trod enc Tryd.prog w 0 (fun _ => true) true fuel 27 (Value.agg cs).cells.toList = some x) : ∃ m : Mn, cs = m.cells ∧ m.Ok ∧ m.name.size ≤ maxLen := by
  have e27 : Tryd.prog.cellsOf 27 = 35 := by kernel_rfl
  have e25 : Tryd.prog.cellsOf 25 = 34 := by kernel_rfl
  have e23 : Tryd.prog.cellsOf 23 = 32 := by kernel_rfl
  have e9 : Tryd.prog.cellsOf 9 = 1 := by kernel_rfl
  have e3 : Tryd.prog.cellsOf 3 = 1 := by kernel_rfl
  obtain ⟨y0, y1, n, _, hl, f0, f1⟩ := trod_struct2 Tryd.underlying27 h
  obtain ⟨z0, z1, z2, k, _, hl1, g0, g1, g2⟩ := Deep.trod_struct3 Tryd.underlying25 f1
  rw [e27] at hl
  simp only [e9, e25, e3, e23] at f0 g0 g1 g2
  obtain ⟨s, c0, _, hs⟩ := DataW.trod_string Tryd.underlying9 f0
  obtain ⟨v, c1, _, hv⟩ := DataW.trod_int Tryd.underlying3 g0
  obtain ⟨q, c2, _, hq⟩ := DataW.trod_int Tryd.underlying3 g1
  obtain ⟨ds, c3, hd, hb⟩ := dig_of g2
  have hbv := bounds_i64 hv
  have hbq := bounds_i64 hq
  refine ⟨⟨s, v, q, ds⟩, ?_, ⟨hd, hb, ⟨hbv.1, hbv.2⟩, ⟨hbq.1, hbq.2⟩⟩, hs⟩
  obtain ⟨l⟩ := cs
  have hl' : l.length = 35 := hl
  simp only [Value.cells] at c0 c1 c2 c3
  match l, hl' with
  | a0 :: a1 :: a2 :: t, ht =>
    have ht3 : t.length = 32 := by simpa using ht
    simp at c0
    simp [List.take_of_length_le, ht3] at c1 c2 c3
    unfold Mn.cells
    simp [c0, c1, c2, c3]
end Go.Proofs.YtjfalnhmmofdfaaDoor

namespace Go.Proofs.YtjfalnhmmofdfaaDoor
open Go.RowKit
set_option linter.unusedVariables false
set_option linter.unusedSimpArgs false

def zs32 : List Int := List.replicate 32 0
def greek8 : ByteArray := ⟨#[206, 177, 206, 178, 206, 179, 206, 180, 206, 181, 206, 182, 206, 183, 206, 184]⟩
def nine9 : ByteArray := ⟨#[97, 98, 99, 100, 101, 102, 103, 104, 105]⟩
def L10 : List Mn := [⟨⟨#[97]⟩, 1, 1, zs32⟩, ⟨⟨#[97]⟩, 0, 1, zs32⟩, ⟨⟨#[97]⟩, 1, 0, zs32⟩, ⟨⟨#[97]⟩, 1073741824, 1073741824, zs32⟩, ⟨⟨#[97]⟩, 1073741825, 1, zs32⟩, ⟨⟨#[97]⟩, 1, 1073741825, zs32⟩,
  ⟨⟨#[]⟩, 1, 1, zs32⟩, ⟨⟨#[65]⟩, 1, 1, zs32⟩, ⟨greek8, 1, 1, zs32⟩, ⟨nine9, 1, 1, zs32⟩]
def B10 : List Bool := [true, false, false, true, false, false, false, false, true, false]
def cells10 : Array Value := (L10.flatMap fun k => k.cells.toList).toArray
set_option maxRecDepth 100000 in
theorem built10 : Tryd.prog.builtSlice 27 10 ((L10.map fun k => Value.agg k.cells).zipIdx.map fun x => (x.2, x.1)) = some cells10 := by kernel_rfl
theorem flat_at : ∀ (L : List Mn) (i j : Nat) (m : Mn) (v : Value), (∀ k ∈ L, k.dig.length = 32) → L[i]? = some m → m.cells.toList[j]? = some v → (L.flatMap fun k => k.cells.toList)[35 * i + j]? = some v
  | [], i, j, m, v, _, h, _ => by simp at h
  | k :: L, 0, j, m, v, hk, h, hj => by
    simp at h
    subst h
    rw [List.flatMap_cons, List.getElem?_append_left (by have := (List.getElem?_eq_some_iff.1 hj).1; omega)]
    simpa using hj
  | k :: L, i + 1, j, m, v, hk, h, hj => by
    have hl : k.cells.toList.length = 35 := by rw [Array.length_toList]; exact mn_size (hk k (by simp))
    rw [List.flatMap_cons, List.getElem?_append_right (by omega), hl, show 35 * (i + 1) + j - 35 = 35 * i + j by omega]
    exact flat_at L i j m v (fun x hx => hk x (by simp [hx])) (by simpa using h) hj
theorem len10 : ∀ k ∈ L10, k.dig.length = 32 := by
  intro k hk
  simp only [L10, List.mem_cons, List.not_mem_nil, or_false] at hk
  rcases hk with rfl | rfl | rfl | rfl | rfl | rfl | rfl | rfl | rfl | rfl <;> exact List.length_replicate
theorem at10 {i j : Nat} {m : Mn} {v : Value} (h : L10[i]? = some m) (hj : m.cells.toList[j]? = some v) : cells10[35 * i + j]? = some v := by
  unfold cells10
  rw [List.getElem?_toArray]
  exact flat_at L10 i j m v len10 h hj
/-- May it be read again? (its name's first 16 bytes, the lowest four bytes of each number) -/
def chk (m : Mn) : Bool := Nam.validL (Nam.all (strOfNums (trimL (rawL (txtL m.name) 16)))) && (decide (Num (val (numL m.ver 4))) && decide (Num (val (numL m.size 4))))
theorem chk_no {ks : List Int} {m : Mn} (h : m.dig.length = 32) (hc : chk m = false) : ¬ Good (byteL ks m) := by
  intro g
  obtain ⟨p1, p2, p3, p4, p5, p6, p7⟩ := parts_of m (Sha.tagI ks (bodyL m)) h
  have e : chk m = true := by
    unfold chk
    have g3 := g.2.2.1
    have g4 := g.2.2.2.1
    have g5 := g.2.2.2.2
    unfold byteL nameL at g3
    unfold byteL verL at g4
    unfold byteL sizL at g5
    rw [p2] at g3
    rw [p3] at g4
    rw [p4] at g5
    rw [g3, decide_eq_true g4, decide_eq_true g5]
    rfl
  rw [hc] at e
  cases e
def fine (m : Mn) : Bool := Nam.validL (Nam.all m.name) && (decide (Num m.ver) && decide (Num m.size))
def small (m : Mn) : Bool := decide (-9223372036854775808 ≤ m.ver ∧ m.ver ≤ 9223372036854775807) && decide (-9223372036854775808 ≤ m.size ∧ m.size ≤ 9223372036854775807)
set_option maxRecDepth 100000 in
theorem all10 : (List.range 10).all (fun i => match L10[i]?, B10[i]? with | some m, some b => (if b then fine m else !chk m) && small m | _, _ => false) = true := by decide +kernel
theorem ten {i : Nat} (hi : i < 10) : ∃ m b, L10[i]? = some m ∧ B10[i]? = some b ∧ m.Ok ∧ (b = true → Nam.validL (Nam.all m.name) = true ∧ Num m.ver ∧ Num m.size) ∧ (b = false → chk m = false) := by
  have h := List.all_eq_true.1 all10 i (List.mem_range.2 hi)
  obtain ⟨m, hm⟩ : ∃ m, L10[i]? = some m := ⟨_, List.getElem?_eq_getElem (l := L10) hi⟩
  obtain ⟨b, hb⟩ : ∃ b, B10[i]? = some b := ⟨_, List.getElem?_eq_getElem (l := B10) hi⟩
  rw [hm, hb] at h
  simp only [Bool.and_eq_true] at h
  obtain ⟨h1, h2⟩ := h
  have hmem := List.mem_of_getElem? hm
  have e : ∀ k ∈ L10, k.dig = zs32 := by
    intro k hk
    simp only [L10, List.mem_cons, List.not_mem_nil, or_false] at hk
    rcases hk with rfl | rfl | rfl | rfl | rfl | rfl | rfl | rfl | rfl | rfl <;> rfl
  unfold small at h2
  simp only [Bool.and_eq_true, decide_eq_true_eq] at h2
  refine ⟨m, b, hm, hb, ⟨len10 _ hmem, ?_, h2.1, h2.2⟩, ?_, ?_⟩
  · rw [e _ hmem]
    exact byt_rep 32
  · intro hb
    rw [hb] at h1
    simp only [if_true] at h1
    unfold fine at h1
    simp only [Bool.and_eq_true, decide_eq_true_eq] at h1
    exact ⟨h1.1, h1.2.1, h1.2.2⟩
  · intro hb
    rw [hb] at h1
    simpa using h1
/-- The i-th one, loaded out of the row. -/
theorem load10 {w : World} {g i : Nat} {m : Mn} (hg : Has w g 27 cells10) (h : L10[i]? = some m) (hl : m.dig.length = 32) : (loadVar 27 ⟨g, 35 * i, none⟩).run Tryd.prog w = .ok (.agg m.cells) w := by
  have hc : (loadCells ⟨g, 35 * i, none⟩ 35).run Tryd.prog w = .ok m.cells w := by
    have := run_loadCells_list (P := Tryd.prog) w ⟨g, 35 * i, none⟩ m.cells.toList (fun j v hv => by
      rw [addr_add, hg.at]
      exact at10 h hv)
    rw [Array.length_toList, mn_size hl] at this
    simpa using this
  obtain ⟨q, hq, hsz⟩ := Option.map_eq_some_iff.1 (show (Tryd.prog.info? 27).map (·.size) = some 35 by kernel_rfl)
  have hagg : (isAgg 27).run Tryd.prog w = .ok true w := by unfold isAgg; rw [Sem.run_bind, run_underlying Tryd.underlying27 w]; rfl
  simp [loadVar, Sem.run_bind, hagg, sizeOf, typeInfo, hq, hsz, hc]
end Go.Proofs.YtjfalnhmmofdfaaDoor

namespace Go.Proofs.YtjfalnhmmofdfaaDoor.manifestLimits
open Go.ChangeShapes Go.WideShapes Go.ChangeAt Go.RowKit
set_option linter.unusedVariables false
set_option linter.unusedSimpArgs false

theorem built25r (n : Int) : Tryd.prog.built 25 [(1, .int .i64 n)] = some (imgC 0 n (List.replicate 32 0)) := by kernel_rfl
theorem built25l (n : Int) : Tryd.prog.built 25 [(0, .int .i64 n)] = some (imgC n 0 (List.replicate 32 0)) := by kernel_rfl
theorem built27r (v n : Int) : Tryd.prog.built 27 [(1, .agg (imgC v n (List.replicate 32 0)))] = some (Mn.cells ⟨⟨#[]⟩, v, n, List.replicate 32 0⟩) := by kernel_rfl
theorem wpList_build25r {w : World} {ops : Array Oper} {rest : List Oper} {o : Oper} {a : Act} {Q : Exit → Act → World → Prop} (hg : o.guard = none) (y : Operand) (ho : o.op = .build 25 #[(1, y)]) (n : Int)
    (hy : a.eval y = .int .i64 n) (h : wpList Tryd.prog ops Q rest (a.put o.dst (.agg (imgC 0 n (List.replicate 32 0)))) w) : wpList Tryd.prog ops Q (o :: rest) a w := by
  refine Sha.wpList_build_to hg 25 _ ho _ ?_ h
  have e : (Array.map (fun (i, x) => (i, a.eval x)) #[(1, y)]).toList = [(1, .int .i64 n)] := by simp [hy]
  rw [e]
  exact built25r n
theorem wpList_build25l {w : World} {ops : Array Oper} {rest : List Oper} {o : Oper} {a : Act} {Q : Exit → Act → World → Prop} (hg : o.guard = none) (y : Operand) (ho : o.op = .build 25 #[(0, y)]) (n : Int)
    (hy : a.eval y = .int .i64 n) (h : wpList Tryd.prog ops Q rest (a.put o.dst (.agg (imgC n 0 (List.replicate 32 0)))) w) : wpList Tryd.prog ops Q (o :: rest) a w := by
  refine Sha.wpList_build_to hg 25 _ ho _ ?_ h
  have e : (Array.map (fun (i, x) => (i, a.eval x)) #[(0, y)]).toList = [(0, .int .i64 n)] := by simp [hy]
  rw [e]
  exact built25l n
theorem wpList_build27r {w : World} {ops : Array Oper} {rest : List Oper} {o : Oper} {a : Act} {Q : Exit → Act → World → Prop} (hg : o.guard = none) (y : Operand) (ho : o.op = .build 27 #[(1, y)]) (v n : Int)
    (hy : a.eval y = .agg (imgC v n (List.replicate 32 0))) (h : wpList Tryd.prog ops Q rest (a.put o.dst (.agg (Mn.cells ⟨⟨#[]⟩, v, n, List.replicate 32 0⟩))) w) : wpList Tryd.prog ops Q (o :: rest) a w := by
  refine Sha.wpList_build_to hg 27 _ ho _ ?_ h
  have e : (Array.map (fun (i, x) => (i, a.eval x)) #[(1, y)]).toList = [(1, .agg (imgC v n (List.replicate 32 0)))] := by simp [hy]
  rw [e]
  exact built27r v n
theorem wpList_ten {w : World} {ops : Array Oper} {rest : List Oper} {o : Oper} {a : Act} {Q : Exit → Act → World → Prop} (hg : o.guard = none) (x0 x1 x2 x3 x4 x5 x6 x7 x8 x9 : Operand) (ho : o.op = .buildSlice 43 10 #[(0, x0), (1, x1), (2, x2), (3, x3), (4, x4), (5, x5), (6, x6), (7, x7), (8, x8), (9, x9)]) (hd : o.dst = some 30) (h0 : a.eval x0 = .agg (Mn.cells ⟨⟨#[97]⟩, 1, 1, List.replicate 32 0⟩)) (h1 : a.eval x1 = .agg (Mn.cells ⟨⟨#[97]⟩, 0, 1, List.replicate 32 0⟩)) (h2 : a.eval x2 = .agg (Mn.cells ⟨⟨#[97]⟩, 1, 0, List.replicate 32 0⟩)) (h3 : a.eval x3 = .agg (Mn.cells ⟨⟨#[97]⟩, 1073741824, 1073741824, List.replicate 32 0⟩)) (h4 : a.eval x4 = .agg (Mn.cells ⟨⟨#[97]⟩, 1073741825, 1, List.replicate 32 0⟩)) (h5 : a.eval x5 = .agg (Mn.cells ⟨⟨#[97]⟩, 1, 1073741825, List.replicate 32 0⟩)) (h6 : a.eval x6 = .agg (Mn.cells ⟨⟨#[]⟩, 1, 1, List.replicate 32 0⟩)) (h7 : a.eval x7 = .agg (Mn.cells ⟨⟨#[65]⟩, 1, 1, List.replicate 32 0⟩)) (h8 : a.eval x8 = .agg (Mn.cells ⟨greek8, 1, 1, List.replicate 32 0⟩)) (h9 : a.eval x9 = .agg (Mn.cells ⟨nine9, 1, 1, List.replicate 32 0⟩))
    (h : wpList Tryd.prog ops Q rest (a.put (some 30) (.slice (some ⟨w.heap.size, 0, none⟩) 10 10)) (w.alloc (.cells cells10 27))) : wpList Tryd.prog ops Q (o :: rest) a w := by
  refine Great.wpList_buildSliceTo hg 43 27 10 _ ho w.heap.size rfl (some 30) hd Tryd.underlying43 cells10 ?_ h
  have e : (Array.map (fun (i, x) => (i, a.eval x)) #[(0, x0), (1, x1), (2, x2), (3, x3), (4, x4), (5, x5), (6, x6), (7, x7), (8, x8), (9, x9)]).toList = ((L10.map fun k => Value.agg k.cells).zipIdx.map fun x => (x.2, x.1)) := by
    simp only [List.map_toArray, List.map_cons, List.map_nil, h0, h1, h2, h3, h4, h5, h6, h7, h8, h9]
    rfl
  rw [e]
  exact built10
theorem load10' {w : World} {g i : Nat} {m : Mn} (hg : Has w g 27 cells10) (h : L10[i]? = some m) (hl : m.dig.length = 32) : (loadVar 27 ⟨g, i * 35, none⟩).run Tryd.prog w = .ok (.agg m.cells) w := by
  rw [Nat.mul_comm]
  exact load10 hg h hl
theorem wpList_load10 {w : World} {ops : Array Oper} {rest : List Oper} {o : Oper} {a : Act} {Q : Exit → Act → World → Prop} (hgd : o.guard = none) (x : Operand) (ho : o.op = .load 27 x) (g i : Nat) (hx : a.eval x = .pointer (some ⟨g, i * 35, none⟩)) (m : Mn) (hg : Has w g 27 cells10) (h : L10[i]? = some m) (hl : m.dig.length = 32)
    (h' : wpList Tryd.prog ops Q rest (a.put o.dst (.agg m.cells)) w) : wpList Tryd.prog ops Q (o :: rest) a w :=
  wpList_plain hgd fun K hK => by
    unfold Oper.wp execOp
    simp only [ho, hx, Instr.loadAt, Instr.sureAddr, Sem.run_bind, Sem.run_pure, Result.andThen_ok, load10' hg h hl]
    exact hK _ _ h'
theorem yields_10 {ops : Array Oper} {S : World → Prop} {o : Oper} {a : Act} (hw : Region.wanted o (yielded ops a.tmps) = true) (x : Operand) (ho : o.op = .load 27 x) (g i : Nat) (hx : a.eval x = .pointer (some ⟨g, i * 35, none⟩)) (m : Mn)
    (hS : ∀ W, S W → Has W g 27 cells10) (h : L10[i]? = some m) (hl : m.dig.length = 32) : YieldsIf Tryd.prog ops S o (.agg m.cells) a :=
  Or.inl ⟨hw, fun W hW => by
    unfold execOp
    simp only [ho, hx, Instr.loadAt, Instr.sureAddr, Sem.run_bind, Sem.run_pure, Result.andThen_ok, load10' (hS W hW) h hl]⟩
theorem wpList_yes {w : World} {ops : Array Oper} {rest : List Oper} {o : Oper} {a : Act} {Q : Exit → Act → World → Prop} (hw : Region.wanted o (yielded ops a.tmps) = true) (h : ∀ K : Act → World → Prop, (∀ a w, wpList Tryd.prog ops Q rest a w → K a w) → o.wp Tryd.prog a w K Q) : wpList Tryd.prog ops Q (o :: rest) a w :=
  wpList_step fun K hK => by rw [if_pos hw]; exact h K hK
theorem wpList_loadY {w : World} {ops : Array Oper} {rest : List Oper} {o : Oper} {a : Act} {Q : Exit → Act → World → Prop} (hw : Region.wanted o (yielded ops a.tmps) = true) (x : Operand) (ho : o.op = .load 27 x) (g : Nat) (hx : a.eval x = .pointer (some ⟨g, 0, none⟩)) (m : Mn) (hg : Has w g 27 m.cells) (hl : m.dig.length = 32)
    (h' : wpList Tryd.prog ops Q rest (a.put o.dst (.agg m.cells)) w) : wpList Tryd.prog ops Q (o :: rest) a w :=
  wpList_yes hw fun K hK => wp_load_row 27 x ho g hx 27 m.cells (0, 0) _ hg Tryd.underlying27 rfl (size27 hl) (hK _ _ h')
theorem wpList_buildY {w : World} {ops : Array Oper} {rest : List Oper} {o : Oper} {a : Act} {Q : Exit → Act → World → Prop} (hw : Region.wanted o (yielded ops a.tmps) = true) (ho : o.op = .build 27 #[])
    (h' : wpList Tryd.prog ops Q rest (a.put o.dst (.agg zeroM.cells)) w) : wpList Tryd.prog ops Q (o :: rest) a w :=
  wpList_yes hw fun K hK => by
    have hr := run_build (P := Tryd.prog) w 27 #[] zeroM.cells built27
    unfold Oper.wp execOp
    simp only [ho, List.map_toArray, List.map_nil, Sem.run_bind, hr, Result.andThen_ok]
    exact hK _ _ h'
theorem wpList_eqY {w : World} {ops : Array Oper} {rest : List Oper} {o : Oper} {a : Act} {Q : Exit → Act → World → Prop} (hw : Region.wanted o (yielded ops a.tmps) = true) (x y : Operand) (ho : o.op = .binOp .eql 27 x y 27) (m : Mn) (hx : a.eval x = .agg m.cells) (hy : a.eval y = .agg m.cells) (hl : m.dig.length = 32)
    (h' : wpList Tryd.prog ops Q rest (a.put o.dst (.bool true)) w) : wpList Tryd.prog ops Q (o :: rest) a w :=
  wpList_yes hw fun K hK => by
    have h1 := run_eqGuard_agg (P := Tryd.prog) w .eql 27 x y m.cells m.cells (by kernel_rfl)
    have h2 := run_eql_struct (P := Tryd.prog) w 27 m.cells m.cells
    rw [eq27 m hl w] at h2
    unfold Oper.wp execOp
    simp only [ho, hx, hy, Sem.run_bind, h1, h2, Result.andThen_ok]
    exact hK _ _ h'
set_option maxRecDepth 100000 in
set_option maxHeartbeats 8000000 in
theorem walk (n : Int) (w : World) (w0 : (Lit.int .i64 n).wf = true) (ht : Sha.Tabs w) :
    Calls Tryd.prog 6 #[.int .i64 n] w fun e w' => e = .returned (.bool true) ∧ Below w.heap.size w w' := by
  have hz27 := zero27_run
  have hcv := fun (w : World) (x : Int) => Lib.run_convert_bytes_const (P := Tryd.prog) w 22 5 #[.int .u8 x] 1 1 Tryd.underlying22 Tryd.underlying5
  have HLV := Lib.hid (live_any w ht)
  have hbn := bounds_i64 w0
  by_cases i0 : n < 0
  · go_enter Tryd.func6, Tryd.ntmps6
    go_upto_region 2 with (go_at_call 7; (with_reducible refine HLV.out.mono ?_); rintro e w1 ⟨rfl, b1⟩)
    refine wp_region_lit ?_
    refine wpList_build25 rfl (.const (.int .i64 1)) (.const (.int .i64 1)) rfl 1 1 rfl rfl ?_
    simp only [List.getElem_toArray, Act.put, List.setIfInBounds_toArray, List.set_cons_zero, List.set_cons_succ]
    refine wpList_build27 rfl (.const (.string ⟨#[97]⟩)) (.tmp 10) rfl ⟨#[97]⟩ 1 1 rfl rfl ?_
    simp only [List.getElem_toArray, Act.put, List.setIfInBounds_toArray, List.set_cons_zero, List.set_cons_succ]
    refine wpList_build25r rfl (.const (.int .i64 1)) rfl 1 rfl ?_
    simp only [List.getElem_toArray, Act.put, List.setIfInBounds_toArray, List.set_cons_zero, List.set_cons_succ]
    refine wpList_build27 rfl (.const (.string ⟨#[97]⟩)) (.tmp 12) rfl ⟨#[97]⟩ 0 1 rfl rfl ?_
    simp only [List.getElem_toArray, Act.put, List.setIfInBounds_toArray, List.set_cons_zero, List.set_cons_succ]
    refine wpList_build25l rfl (.const (.int .i64 1)) rfl 1 rfl ?_
    simp only [List.getElem_toArray, Act.put, List.setIfInBounds_toArray, List.set_cons_zero, List.set_cons_succ]
    refine wpList_build27 rfl (.const (.string ⟨#[97]⟩)) (.tmp 14) rfl ⟨#[97]⟩ 1 0 rfl rfl ?_
    simp only [List.getElem_toArray, Act.put, List.setIfInBounds_toArray, List.set_cons_zero, List.set_cons_succ]
    refine wpList_build25 rfl (.const (.int .i64 1073741824)) (.const (.int .i64 1073741824)) rfl 1073741824 1073741824 rfl rfl ?_
    simp only [List.getElem_toArray, Act.put, List.setIfInBounds_toArray, List.set_cons_zero, List.set_cons_succ]
    refine wpList_build27 rfl (.const (.string ⟨#[97]⟩)) (.tmp 16) rfl ⟨#[97]⟩ 1073741824 1073741824 rfl rfl ?_
    simp only [List.getElem_toArray, Act.put, List.setIfInBounds_toArray, List.set_cons_zero, List.set_cons_succ]
    refine wpList_build25 rfl (.const (.int .i64 1073741825)) (.const (.int .i64 1)) rfl 1073741825 1 rfl rfl ?_
    simp only [List.getElem_toArray, Act.put, List.setIfInBounds_toArray, List.set_cons_zero, List.set_cons_succ]
    refine wpList_build27 rfl (.const (.string ⟨#[97]⟩)) (.tmp 18) rfl ⟨#[97]⟩ 1073741825 1 rfl rfl ?_
    simp only [List.getElem_toArray, Act.put, List.setIfInBounds_toArray, List.set_cons_zero, List.set_cons_succ]
    refine wpList_build25 rfl (.const (.int .i64 1)) (.const (.int .i64 1073741825)) rfl 1 1073741825 rfl rfl ?_
    simp only [List.getElem_toArray, Act.put, List.setIfInBounds_toArray, List.set_cons_zero, List.set_cons_succ]
    refine wpList_build27 rfl (.const (.string ⟨#[97]⟩)) (.tmp 20) rfl ⟨#[97]⟩ 1 1073741825 rfl rfl ?_
    simp only [List.getElem_toArray, Act.put, List.setIfInBounds_toArray, List.set_cons_zero, List.set_cons_succ]
    refine wpList_build25 rfl (.const (.int .i64 1)) (.const (.int .i64 1)) rfl 1 1 rfl rfl ?_
    simp only [List.getElem_toArray, Act.put, List.setIfInBounds_toArray, List.set_cons_zero, List.set_cons_succ]
    refine wpList_build27r rfl (.tmp 22) rfl 1 1 rfl ?_
    simp only [List.getElem_toArray, Act.put, List.setIfInBounds_toArray, List.set_cons_zero, List.set_cons_succ]
    refine wpList_build25 rfl (.const (.int .i64 1)) (.const (.int .i64 1)) rfl 1 1 rfl rfl ?_
    simp only [List.getElem_toArray, Act.put, List.setIfInBounds_toArray, List.set_cons_zero, List.set_cons_succ]
    refine wpList_build27 rfl (.const (.string ⟨#[65]⟩)) (.tmp 24) rfl ⟨#[65]⟩ 1 1 rfl rfl ?_
    simp only [List.getElem_toArray, Act.put, List.setIfInBounds_toArray, List.set_cons_zero, List.set_cons_succ]
    refine wpList_build25 rfl (.const (.int .i64 1)) (.const (.int .i64 1)) rfl 1 1 rfl rfl ?_
    simp only [List.getElem_toArray, Act.put, List.setIfInBounds_toArray, List.set_cons_zero, List.set_cons_succ]
    refine wpList_build27 rfl (.const (.string ⟨#[206, 177, 206, 178, 206, 179, 206, 180, 206, 181, 206, 182, 206, 183, 206, 184]⟩)) (.tmp 26) rfl ⟨#[206, 177, 206, 178, 206, 179, 206, 180, 206, 181, 206, 182, 206, 183, 206, 184]⟩ 1 1 rfl rfl ?_
    simp only [List.getElem_toArray, Act.put, List.setIfInBounds_toArray, List.set_cons_zero, List.set_cons_succ]
    refine wpList_build25 rfl (.const (.int .i64 1)) (.const (.int .i64 1)) rfl 1 1 rfl rfl ?_
    simp only [List.getElem_toArray, Act.put, List.setIfInBounds_toArray, List.set_cons_zero, List.set_cons_succ]
    refine wpList_build27 rfl (.const (.string ⟨#[97, 98, 99, 100, 101, 102, 103, 104, 105]⟩)) (.tmp 28) rfl ⟨#[97, 98, 99, 100, 101, 102, 103, 104, 105]⟩ 1 1 rfl rfl ?_
    simp only [List.getElem_toArray, Act.put, List.setIfInBounds_toArray, List.set_cons_zero, List.set_cons_succ]
    refine wpList_ten rfl (.tmp 11) (.tmp 13) (.tmp 15) (.tmp 17) (.tmp 19) (.tmp 21) (.tmp 23) (.tmp 25) (.tmp 27) (.tmp 29) rfl rfl rfl rfl rfl rfl rfl rfl rfl rfl rfl rfl ?_
    simp only [List.getElem_toArray, Act.put, List.setIfInBounds_toArray, List.set_cons_zero, List.set_cons_succ]
    go_wp2
    go_ret
    exact ⟨rfl, b1.trans ((((Below.refl _ _).alloc (Nat.le_refl _) _).alloc (by simp) _).mono b1.size)⟩
  by_cases i1 : 10 ≤ n
  · go_enter Tryd.func6, Tryd.ntmps6
    go_upto_region 2 with (go_at_call 7; (with_reducible refine HLV.out.mono ?_); rintro e w1 ⟨rfl, b1⟩)
    refine wp_region_lit ?_
    refine wpList_build25 rfl (.const (.int .i64 1)) (.const (.int .i64 1)) rfl 1 1 rfl rfl ?_
    simp only [List.getElem_toArray, Act.put, List.setIfInBounds_toArray, List.set_cons_zero, List.set_cons_succ]
    refine wpList_build27 rfl (.const (.string ⟨#[97]⟩)) (.tmp 10) rfl ⟨#[97]⟩ 1 1 rfl rfl ?_
    simp only [List.getElem_toArray, Act.put, List.setIfInBounds_toArray, List.set_cons_zero, List.set_cons_succ]
    refine wpList_build25r rfl (.const (.int .i64 1)) rfl 1 rfl ?_
    simp only [List.getElem_toArray, Act.put, List.setIfInBounds_toArray, List.set_cons_zero, List.set_cons_succ]
    refine wpList_build27 rfl (.const (.string ⟨#[97]⟩)) (.tmp 12) rfl ⟨#[97]⟩ 0 1 rfl rfl ?_
    simp only [List.getElem_toArray, Act.put, List.setIfInBounds_toArray, List.set_cons_zero, List.set_cons_succ]
    refine wpList_build25l rfl (.const (.int .i64 1)) rfl 1 rfl ?_
    simp only [List.getElem_toArray, Act.put, List.setIfInBounds_toArray, List.set_cons_zero, List.set_cons_succ]
    refine wpList_build27 rfl (.const (.string ⟨#[97]⟩)) (.tmp 14) rfl ⟨#[97]⟩ 1 0 rfl rfl ?_
    simp only [List.getElem_toArray, Act.put, List.setIfInBounds_toArray, List.set_cons_zero, List.set_cons_succ]
    refine wpList_build25 rfl (.const (.int .i64 1073741824)) (.const (.int .i64 1073741824)) rfl 1073741824 1073741824 rfl rfl ?_
    simp only [List.getElem_toArray, Act.put, List.setIfInBounds_toArray, List.set_cons_zero, List.set_cons_succ]
    refine wpList_build27 rfl (.const (.string ⟨#[97]⟩)) (.tmp 16) rfl ⟨#[97]⟩ 1073741824 1073741824 rfl rfl ?_
    simp only [List.getElem_toArray, Act.put, List.setIfInBounds_toArray, List.set_cons_zero, List.set_cons_succ]
    refine wpList_build25 rfl (.const (.int .i64 1073741825)) (.const (.int .i64 1)) rfl 1073741825 1 rfl rfl ?_
    simp only [List.getElem_toArray, Act.put, List.setIfInBounds_toArray, List.set_cons_zero, List.set_cons_succ]
    refine wpList_build27 rfl (.const (.string ⟨#[97]⟩)) (.tmp 18) rfl ⟨#[97]⟩ 1073741825 1 rfl rfl ?_
    simp only [List.getElem_toArray, Act.put, List.setIfInBounds_toArray, List.set_cons_zero, List.set_cons_succ]
    refine wpList_build25 rfl (.const (.int .i64 1)) (.const (.int .i64 1073741825)) rfl 1 1073741825 rfl rfl ?_
    simp only [List.getElem_toArray, Act.put, List.setIfInBounds_toArray, List.set_cons_zero, List.set_cons_succ]
    refine wpList_build27 rfl (.const (.string ⟨#[97]⟩)) (.tmp 20) rfl ⟨#[97]⟩ 1 1073741825 rfl rfl ?_
    simp only [List.getElem_toArray, Act.put, List.setIfInBounds_toArray, List.set_cons_zero, List.set_cons_succ]
    refine wpList_build25 rfl (.const (.int .i64 1)) (.const (.int .i64 1)) rfl 1 1 rfl rfl ?_
    simp only [List.getElem_toArray, Act.put, List.setIfInBounds_toArray, List.set_cons_zero, List.set_cons_succ]
    refine wpList_build27r rfl (.tmp 22) rfl 1 1 rfl ?_
    simp only [List.getElem_toArray, Act.put, List.setIfInBounds_toArray, List.set_cons_zero, List.set_cons_succ]
    refine wpList_build25 rfl (.const (.int .i64 1)) (.const (.int .i64 1)) rfl 1 1 rfl rfl ?_
    simp only [List.getElem_toArray, Act.put, List.setIfInBounds_toArray, List.set_cons_zero, List.set_cons_succ]
    refine wpList_build27 rfl (.const (.string ⟨#[65]⟩)) (.tmp 24) rfl ⟨#[65]⟩ 1 1 rfl rfl ?_
    simp only [List.getElem_toArray, Act.put, List.setIfInBounds_toArray, List.set_cons_zero, List.set_cons_succ]
    refine wpList_build25 rfl (.const (.int .i64 1)) (.const (.int .i64 1)) rfl 1 1 rfl rfl ?_
    simp only [List.getElem_toArray, Act.put, List.setIfInBounds_toArray, List.set_cons_zero, List.set_cons_succ]
    refine wpList_build27 rfl (.const (.string ⟨#[206, 177, 206, 178, 206, 179, 206, 180, 206, 181, 206, 182, 206, 183, 206, 184]⟩)) (.tmp 26) rfl ⟨#[206, 177, 206, 178, 206, 179, 206, 180, 206, 181, 206, 182, 206, 183, 206, 184]⟩ 1 1 rfl rfl ?_
    simp only [List.getElem_toArray, Act.put, List.setIfInBounds_toArray, List.set_cons_zero, List.set_cons_succ]
    refine wpList_build25 rfl (.const (.int .i64 1)) (.const (.int .i64 1)) rfl 1 1 rfl rfl ?_
    simp only [List.getElem_toArray, Act.put, List.setIfInBounds_toArray, List.set_cons_zero, List.set_cons_succ]
    refine wpList_build27 rfl (.const (.string ⟨#[97, 98, 99, 100, 101, 102, 103, 104, 105]⟩)) (.tmp 28) rfl ⟨#[97, 98, 99, 100, 101, 102, 103, 104, 105]⟩ 1 1 rfl rfl ?_
    simp only [List.getElem_toArray, Act.put, List.setIfInBounds_toArray, List.set_cons_zero, List.set_cons_succ]
    refine wpList_ten rfl (.tmp 11) (.tmp 13) (.tmp 15) (.tmp 17) (.tmp 19) (.tmp 21) (.tmp 23) (.tmp 25) (.tmp 27) (.tmp 29) rfl rfl rfl rfl rfl rfl rfl rfl rfl rfl rfl rfl ?_
    simp only [List.getElem_toArray, Act.put, List.setIfInBounds_toArray, List.set_cons_zero, List.set_cons_succ]
    go_wp2
    go_ret
    exact ⟨rfl, b1.trans ((((Below.refl _ _).alloc (Nat.le_refl _) _).alloc (by simp) _).mono b1.size)⟩
  obtain ⟨i, rfl⟩ := Int.eq_ofNat_of_zero_le (show 0 ≤ n by omega)
  have hi : i < 10 := by omega
  obtain ⟨m, b, hm, hb, hok, hyes, hno⟩ := ten hi
  have hl := hok.1
  have HM := Lib.hid hm
  have HBB := Lib.hid hb
  have HOK := Lib.hid hok
  have HTL := Lib.hid (byte_len [107] m)
  cases b with
  | true =>
    obtain ⟨y1, y2, y3⟩ := hyes rfl
    obtain ⟨KG, KM, KT, KS⟩ := byte_back [107] hl y1 y2 y3
    have HKM := Lib.hid KM
    have HKE := Lib.hid (readE_yes KG)
    clear hm hb hok hyes hno y1 y2 y3 KG KM KT KS hi
    go_enter Tryd.func6, Tryd.ntmps6
    go_upto_region 2 with (go_at_call 7; (with_reducible refine HLV.out.mono ?_); rintro e w1 ⟨rfl, b1⟩)
    refine wp_region_lit ?_
    refine wpList_build25 rfl (.const (.int .i64 1)) (.const (.int .i64 1)) rfl 1 1 rfl rfl ?_
    simp only [List.getElem_toArray, Act.put, List.setIfInBounds_toArray, List.set_cons_zero, List.set_cons_succ]
    refine wpList_build27 rfl (.const (.string ⟨#[97]⟩)) (.tmp 10) rfl ⟨#[97]⟩ 1 1 rfl rfl ?_
    simp only [List.getElem_toArray, Act.put, List.setIfInBounds_toArray, List.set_cons_zero, List.set_cons_succ]
    refine wpList_build25r rfl (.const (.int .i64 1)) rfl 1 rfl ?_
    simp only [List.getElem_toArray, Act.put, List.setIfInBounds_toArray, List.set_cons_zero, List.set_cons_succ]
    refine wpList_build27 rfl (.const (.string ⟨#[97]⟩)) (.tmp 12) rfl ⟨#[97]⟩ 0 1 rfl rfl ?_
    simp only [List.getElem_toArray, Act.put, List.setIfInBounds_toArray, List.set_cons_zero, List.set_cons_succ]
    refine wpList_build25l rfl (.const (.int .i64 1)) rfl 1 rfl ?_
    simp only [List.getElem_toArray, Act.put, List.setIfInBounds_toArray, List.set_cons_zero, List.set_cons_succ]
    refine wpList_build27 rfl (.const (.string ⟨#[97]⟩)) (.tmp 14) rfl ⟨#[97]⟩ 1 0 rfl rfl ?_
    simp only [List.getElem_toArray, Act.put, List.setIfInBounds_toArray, List.set_cons_zero, List.set_cons_succ]
    refine wpList_build25 rfl (.const (.int .i64 1073741824)) (.const (.int .i64 1073741824)) rfl 1073741824 1073741824 rfl rfl ?_
    simp only [List.getElem_toArray, Act.put, List.setIfInBounds_toArray, List.set_cons_zero, List.set_cons_succ]
    refine wpList_build27 rfl (.const (.string ⟨#[97]⟩)) (.tmp 16) rfl ⟨#[97]⟩ 1073741824 1073741824 rfl rfl ?_
    simp only [List.getElem_toArray, Act.put, List.setIfInBounds_toArray, List.set_cons_zero, List.set_cons_succ]
    refine wpList_build25 rfl (.const (.int .i64 1073741825)) (.const (.int .i64 1)) rfl 1073741825 1 rfl rfl ?_
    simp only [List.getElem_toArray, Act.put, List.setIfInBounds_toArray, List.set_cons_zero, List.set_cons_succ]
    refine wpList_build27 rfl (.const (.string ⟨#[97]⟩)) (.tmp 18) rfl ⟨#[97]⟩ 1073741825 1 rfl rfl ?_
    simp only [List.getElem_toArray, Act.put, List.setIfInBounds_toArray, List.set_cons_zero, List.set_cons_succ]
    refine wpList_build25 rfl (.const (.int .i64 1)) (.const (.int .i64 1073741825)) rfl 1 1073741825 rfl rfl ?_
    simp only [List.getElem_toArray, Act.put, List.setIfInBounds_toArray, List.set_cons_zero, List.set_cons_succ]
    refine wpList_build27 rfl (.const (.string ⟨#[97]⟩)) (.tmp 20) rfl ⟨#[97]⟩ 1 1073741825 rfl rfl ?_
    simp only [List.getElem_toArray, Act.put, List.setIfInBounds_toArray, List.set_cons_zero, List.set_cons_succ]
    refine wpList_build25 rfl (.const (.int .i64 1)) (.const (.int .i64 1)) rfl 1 1 rfl rfl ?_
    simp only [List.getElem_toArray, Act.put, List.setIfInBounds_toArray, List.set_cons_zero, List.set_cons_succ]
    refine wpList_build27r rfl (.tmp 22) rfl 1 1 rfl ?_
    simp only [List.getElem_toArray, Act.put, List.setIfInBounds_toArray, List.set_cons_zero, List.set_cons_succ]
    refine wpList_build25 rfl (.const (.int .i64 1)) (.const (.int .i64 1)) rfl 1 1 rfl rfl ?_
    simp only [List.getElem_toArray, Act.put, List.setIfInBounds_toArray, List.set_cons_zero, List.set_cons_succ]
    refine wpList_build27 rfl (.const (.string ⟨#[65]⟩)) (.tmp 24) rfl ⟨#[65]⟩ 1 1 rfl rfl ?_
    simp only [List.getElem_toArray, Act.put, List.setIfInBounds_toArray, List.set_cons_zero, List.set_cons_succ]
    refine wpList_build25 rfl (.const (.int .i64 1)) (.const (.int .i64 1)) rfl 1 1 rfl rfl ?_
    simp only [List.getElem_toArray, Act.put, List.setIfInBounds_toArray, List.set_cons_zero, List.set_cons_succ]
    refine wpList_build27 rfl (.const (.string ⟨#[206, 177, 206, 178, 206, 179, 206, 180, 206, 181, 206, 182, 206, 183, 206, 184]⟩)) (.tmp 26) rfl ⟨#[206, 177, 206, 178, 206, 179, 206, 180, 206, 181, 206, 182, 206, 183, 206, 184]⟩ 1 1 rfl rfl ?_
    simp only [List.getElem_toArray, Act.put, List.setIfInBounds_toArray, List.set_cons_zero, List.set_cons_succ]
    refine wpList_build25 rfl (.const (.int .i64 1)) (.const (.int .i64 1)) rfl 1 1 rfl rfl ?_
    simp only [List.getElem_toArray, Act.put, List.setIfInBounds_toArray, List.set_cons_zero, List.set_cons_succ]
    refine wpList_build27 rfl (.const (.string ⟨#[97, 98, 99, 100, 101, 102, 103, 104, 105]⟩)) (.tmp 28) rfl ⟨#[97, 98, 99, 100, 101, 102, 103, 104, 105]⟩ 1 1 rfl rfl ?_
    simp only [List.getElem_toArray, Act.put, List.setIfInBounds_toArray, List.set_cons_zero, List.set_cons_succ]
    refine wpList_ten rfl (.tmp 11) (.tmp 13) (.tmp 15) (.tmp 17) (.tmp 19) (.tmp 21) (.tmp 23) (.tmp 25) (.tmp 27) (.tmp 29) rfl rfl rfl rfl rfl rfl rfl rfl rfl rfl rfl rfl ?_
    simp only [List.getElem_toArray, Act.put, List.setIfInBounds_toArray, List.set_cons_zero, List.set_cons_succ]
    have hcv1 := Lib.run_convert_bytes_const (P := Tryd.prog) ((w1.alloc (.cells cells10 27)).alloc (.cells #[.bool true, .bool false, .bool false, .bool true, .bool false, .bool false, .bool false, .bool false, .bool true, .bool false] 4)) 22 5 #[.int .u8 107] 1 1 Tryd.underlying22 Tryd.underlying5
    have hkr := key_row ((w1.alloc (.cells cells10 27)).alloc (.cells #[.bool true, .bool false, .bool false, .bool true, .bool false, .bool false, .bool false, .bool false, .bool true, .bool false] 4)) 107 (by omega)
    simp only [World.size_alloc] at hcv1 hkr
    have hA : Has (((w1.alloc (.cells cells10 27)).alloc (.cells #[.bool true, .bool false, .bool false, .bool true, .bool false, .bool false, .bool false, .bool false, .bool true, .bool false] 4)).alloc (.cells #[.int .u8 107] 5 (1, 2))) w1.heap.size 27 cells10 := ((has_new w1 27 cells10).more _).more _
    have hBo : Has (((w1.alloc (.cells cells10 27)).alloc (.cells #[.bool true, .bool false, .bool false, .bool true, .bool false, .bool false, .bool false, .bool false, .bool true, .bool false] 4)).alloc (.cells #[.int .u8 107] 5 (1, 2))) (w1.heap.size + 1) 4 (B10.map Value.bool).toArray := by
      have := has_new (w1.alloc (.cells cells10 27)) 4 (B10.map Value.bool).toArray
      rw [World.size_alloc] at this
      exact this.more _
    have bC : Below w.heap.size w (((w1.alloc (.cells cells10 27)).alloc (.cells #[.bool true, .bool false, .bool false, .bool true, .bool false, .bool false, .bool false, .bool false, .bool true, .bool false] 4)).alloc (.cells #[.int .u8 107] 5 (1, 2))) := b1.trans (((((Below.refl _ _).alloc (Nat.le_refl _) _).alloc (by simp) _).alloc (by simp; omega) _).mono b1.size)
    have hBI : (B10.map Value.bool).toArray[i]? = some (.bool true) := by
      rw [List.getElem?_toArray, List.getElem?_map, HBB.out]
      rfl
    have HB := Lib.hid (mbytes_any (some ⟨w1.heap.size + 1 + 1, 0, none⟩) 1 1 [107] m _ hkr (by omega) (by omega) HOK.out (ht.kept bC))
    clear hkr hcv
    go_wp2_with (first
      | (refine wpList_load10 rfl (.tmp 50) rfl w1.heap.size i rfl m hA HM.out hl ?_)
      | (go_at_call 12; (with_reducible refine HB.out.mono ?_); rintro e w2 ⟨v2, rfl, o2, b2⟩; clear HB; have b2' := bC.trans (b2.mono bC.size); have hA2 := hA.kept b2; have hB2 := hBo.kept b2; obtain ⟨A2, c2, rfl, hc2, r2, _⟩ := o2.form; clear o2; have HR := Lib.hid (read_any A2 92 c2 _ w2 r2 hc2 (by omega)))
      | (go_at_call 8; (with_reducible refine HR.out.mono ?_); rintro e w3 ⟨v3, rfl, o3, b3⟩; clear HR; rw [HKM.out, HKE.out]; obtain ⟨A3, c3, rfl, _, _, _⟩ := o3.form; clear o3; have b3' := b2'.trans (b3.mono b2'.size); have hA3 := hA2.kept b3; have hB3 := hB2.kept b3; have hne := has_new w3 27 zeroM.cells)
      | (refine Sha.wpList_row rfl 27 _ _ rfl w3.heap.size m.cells rfl rfl 27 _ hne (size27 hl) (old27 zero_len hl) (mn_all _) ?_; intro w4 hs4 hon4; have q4 := (b3'.alloc b3'.size (.cells zeroM.cells 27)).size; have b4 := Sha.below_only (b3'.alloc b3'.size (.cells zeroM.cells 27)) hon4 b3'.size q4; have hA4 : Has w4 w1.heap.size 27 cells10 := Has.only (hA3.more _) (only_grown hon4) (by have := hA3.size; omega); have hB4 : Has w4 (w1.heap.size + 1) 4 (B10.map Value.bool).toArray := Has.only (hB3.more _) (only_grown hon4) (by have := hB3.size; omega); have cB4 : w4.cell? ⟨w1.heap.size + 1, i, none⟩ = some (.bool true) := (hB4.at i).trans hBI; have hx4 := sha_has hs4))
    have hd := (Below.refl w4.heap.size w4).drew
    have HHX := Lib.hid (fun W (hW : Below w4.heap.size w4.drew W) => show Has W w3.heap.size 27 m.cells from Has.kept hx4 (hd.trans hW))
    have HHA := Lib.hid (fun W (hW : Below w4.heap.size w4.drew W) => show Has W w1.heap.size 27 cells10 from Has.kept hA4 (hd.trans hW))
    have HEND := Lib.hid (b4.trans (hd.mono b4.size))
    have HS7 := Lib.hid (Below.refl w4.heap.size w4.drew)
    have hin : (i : Int) < 10 := by omega
    clear hx4 hA4 hB4 cB4 hs4 hon4 hne hA3 hB3 hA2 hB2 hA hBo bC b1 b2 b3 b2' b3' b4 q4 hd r2
    refine wp_region_held_drew (S := fun W => Below w4.heap.size w4.drew W) (by kernel_rfl) HS7.out ?_
    intro _
    refine wpAnyH_take (i := 0) (v := .int .i64 0) rfl (by kernel_rfl) (by kernel_rfl) (by kernel_rfl) (fun _ _ _ h => h) (Or.inl ⟨by rfl, (fun W _ => by go_simp)⟩) HS7.out ?_
    simp only [List.getElem_toArray, List.getElem_cons_succ, List.getElem_cons_zero, Act.put, List.setIfInBounds_toArray, List.set_cons_zero, List.set_cons_succ]
    refine wpAnyH_ready (rs := [1]) (by kernel_rfl) (by simp) ?_
    refine AllReadyH.cons rfl (fun K hK => ?_) AllReadyH.nil
    go_simp
    refine (lnum_any _ _).mono ?_
    rintro e w9 ⟨rfl, rfl⟩
    refine hK.out _ _ HS7.out (fun _ => ?_)
    clear hK K
    refine wpAnyH_take (i := 2) (v := .bool true) rfl (by kernel_rfl) (by kernel_rfl) (by kernel_rfl) (fun _ _ _ h => h) (Or.inl ⟨by rfl, (fun W _ => by go_simp)⟩) HS7.out ?_
    simp only [List.getElem_toArray, List.getElem_cons_succ, List.getElem_cons_zero, Act.put, List.setIfInBounds_toArray, List.set_cons_zero, List.set_cons_succ]
    refine wpAnyH_take (i := 3) (v := .bool true) rfl (by kernel_rfl) (by kernel_rfl) (by kernel_rfl) (fun _ _ _ h => h) (Or.inl ⟨by rfl, (fun W _ => by go_simp)⟩) HS7.out ?_
    simp only [List.getElem_toArray, List.getElem_cons_succ, List.getElem_cons_zero, Act.put, List.setIfInBounds_toArray, List.set_cons_zero, List.set_cons_succ]
    refine wpAnyH_take (i := 4) (v := .agg m.cells) rfl (by kernel_rfl) (by kernel_rfl) (by kernel_rfl) (fun _ _ _ h => h) (yields_mn (by rfl) (.tmp 6) rfl w3.heap.size rfl m HHX.out hl) HS7.out ?_
    simp only [List.getElem_toArray, List.getElem_cons_succ, List.getElem_cons_zero, Act.put, List.setIfInBounds_toArray, List.set_cons_zero, List.set_cons_succ]
    refine wpAnyH_take (i := 5) (v := .slice (some ⟨w1.heap.size, 0, none⟩) 10 10) rfl (by kernel_rfl) (by kernel_rfl) (by kernel_rfl) (fun _ _ _ h => h) (Or.inl ⟨by rfl, (fun W _ => by go_simp)⟩) HS7.out ?_
    simp only [List.getElem_toArray, List.getElem_cons_succ, List.getElem_cons_zero, Act.put, List.setIfInBounds_toArray, List.set_cons_zero, List.set_cons_succ]
    refine wpAnyH_take (i := 6) (v := .int .i64 (i : Int)) rfl (by kernel_rfl) (by kernel_rfl) (by kernel_rfl) (fun _ _ _ h => h) (Or.inl ⟨by rfl, (fun W _ => by go_simp)⟩) HS7.out ?_
    simp only [List.getElem_toArray, List.getElem_cons_succ, List.getElem_cons_zero, Act.put, List.setIfInBounds_toArray, List.set_cons_zero, List.set_cons_succ]
    refine wpAnyH_take (i := 7) (v := .pointer (some ⟨w1.heap.size, i * 35, none⟩)) rfl (by kernel_rfl) (by kernel_rfl) (by kernel_rfl) (fun _ _ _ h => h) (Or.inl ⟨by rfl, (fun W _ => by go_simp)⟩) HS7.out ?_
    simp only [List.getElem_toArray, List.getElem_cons_succ, List.getElem_cons_zero, Act.put, List.setIfInBounds_toArray, List.set_cons_zero, List.set_cons_succ]
    refine wpAnyH_take (i := 8) (v := .agg m.cells) rfl (by kernel_rfl) (by kernel_rfl) (by kernel_rfl) (fun _ _ _ h => h) (yields_10 (by rfl) (.tmp 68) rfl w1.heap.size i rfl m HHA.out HM.out hl) HS7.out ?_
    simp only [List.getElem_toArray, List.getElem_cons_succ, List.getElem_cons_zero, Act.put, List.setIfInBounds_toArray, List.set_cons_zero, List.set_cons_succ]
    refine wpAnyH_take (i := 9) (v := .bool true) rfl (by kernel_rfl) (by kernel_rfl) (by kernel_rfl) (fun _ _ _ h => h) (yields_eq27 (by rfl) (.tmp 65) (.tmp 69) rfl m rfl rfl hl) HS7.out ?_
    simp only [List.getElem_toArray, List.getElem_cons_succ, List.getElem_cons_zero, Act.put, List.setIfInBounds_toArray, List.set_cons_zero, List.set_cons_succ]
    refine wpAnyH_take (i := 10) (v := .bool true) rfl (by kernel_rfl) (by kernel_rfl) (by kernel_rfl) (fun _ _ _ h => h) (Or.inl ⟨by rfl, (fun W _ => by go_simp)⟩) HS7.out ?_
    simp only [List.getElem_toArray, List.getElem_cons_succ, List.getElem_cons_zero, Act.put, List.setIfInBounds_toArray, List.set_cons_zero, List.set_cons_succ]
    refine wpAnyH_take (i := 11) (v := .bool true) rfl (by kernel_rfl) (by kernel_rfl) (by kernel_rfl) (fun _ _ _ h => h) (Or.inl ⟨by rfl, (fun W _ => by go_simp)⟩) HS7.out ?_
    simp only [List.getElem_toArray, List.getElem_cons_succ, List.getElem_cons_zero, Act.put, List.setIfInBounds_toArray, List.set_cons_zero, List.set_cons_succ]
    refine wpAnyH_done (by kernel_rfl) ?_ _
    clear HS7 HHX HHA
    go_wp2
    go_ret
    exact ⟨rfl, HEND.out⟩
  | false =>
    have HG := Lib.hid (chk_no (ks := [107]) hl (hno rfl))
    clear hm hb hok hyes hno hi
    go_enter Tryd.func6, Tryd.ntmps6
    go_upto_region 2 with (go_at_call 7; (with_reducible refine HLV.out.mono ?_); rintro e w1 ⟨rfl, b1⟩)
    refine wp_region_lit ?_
    refine wpList_build25 rfl (.const (.int .i64 1)) (.const (.int .i64 1)) rfl 1 1 rfl rfl ?_
    simp only [List.getElem_toArray, Act.put, List.setIfInBounds_toArray, List.set_cons_zero, List.set_cons_succ]
    refine wpList_build27 rfl (.const (.string ⟨#[97]⟩)) (.tmp 10) rfl ⟨#[97]⟩ 1 1 rfl rfl ?_
    simp only [List.getElem_toArray, Act.put, List.setIfInBounds_toArray, List.set_cons_zero, List.set_cons_succ]
    refine wpList_build25r rfl (.const (.int .i64 1)) rfl 1 rfl ?_
    simp only [List.getElem_toArray, Act.put, List.setIfInBounds_toArray, List.set_cons_zero, List.set_cons_succ]
    refine wpList_build27 rfl (.const (.string ⟨#[97]⟩)) (.tmp 12) rfl ⟨#[97]⟩ 0 1 rfl rfl ?_
    simp only [List.getElem_toArray, Act.put, List.setIfInBounds_toArray, List.set_cons_zero, List.set_cons_succ]
    refine wpList_build25l rfl (.const (.int .i64 1)) rfl 1 rfl ?_
    simp only [List.getElem_toArray, Act.put, List.setIfInBounds_toArray, List.set_cons_zero, List.set_cons_succ]
    refine wpList_build27 rfl (.const (.string ⟨#[97]⟩)) (.tmp 14) rfl ⟨#[97]⟩ 1 0 rfl rfl ?_
    simp only [List.getElem_toArray, Act.put, List.setIfInBounds_toArray, List.set_cons_zero, List.set_cons_succ]
    refine wpList_build25 rfl (.const (.int .i64 1073741824)) (.const (.int .i64 1073741824)) rfl 1073741824 1073741824 rfl rfl ?_
    simp only [List.getElem_toArray, Act.put, List.setIfInBounds_toArray, List.set_cons_zero, List.set_cons_succ]
    refine wpList_build27 rfl (.const (.string ⟨#[97]⟩)) (.tmp 16) rfl ⟨#[97]⟩ 1073741824 1073741824 rfl rfl ?_
    simp only [List.getElem_toArray, Act.put, List.setIfInBounds_toArray, List.set_cons_zero, List.set_cons_succ]
    refine wpList_build25 rfl (.const (.int .i64 1073741825)) (.const (.int .i64 1)) rfl 1073741825 1 rfl rfl ?_
    simp only [List.getElem_toArray, Act.put, List.setIfInBounds_toArray, List.set_cons_zero, List.set_cons_succ]
    refine wpList_build27 rfl (.const (.string ⟨#[97]⟩)) (.tmp 18) rfl ⟨#[97]⟩ 1073741825 1 rfl rfl ?_
    simp only [List.getElem_toArray, Act.put, List.setIfInBounds_toArray, List.set_cons_zero, List.set_cons_succ]
    refine wpList_build25 rfl (.const (.int .i64 1)) (.const (.int .i64 1073741825)) rfl 1 1073741825 rfl rfl ?_
    simp only [List.getElem_toArray, Act.put, List.setIfInBounds_toArray, List.set_cons_zero, List.set_cons_succ]
    refine wpList_build27 rfl (.const (.string ⟨#[97]⟩)) (.tmp 20) rfl ⟨#[97]⟩ 1 1073741825 rfl rfl ?_
    simp only [List.getElem_toArray, Act.put, List.setIfInBounds_toArray, List.set_cons_zero, List.set_cons_succ]
    refine wpList_build25 rfl (.const (.int .i64 1)) (.const (.int .i64 1)) rfl 1 1 rfl rfl ?_
    simp only [List.getElem_toArray, Act.put, List.setIfInBounds_toArray, List.set_cons_zero, List.set_cons_succ]
    refine wpList_build27r rfl (.tmp 22) rfl 1 1 rfl ?_
    simp only [List.getElem_toArray, Act.put, List.setIfInBounds_toArray, List.set_cons_zero, List.set_cons_succ]
    refine wpList_build25 rfl (.const (.int .i64 1)) (.const (.int .i64 1)) rfl 1 1 rfl rfl ?_
    simp only [List.getElem_toArray, Act.put, List.setIfInBounds_toArray, List.set_cons_zero, List.set_cons_succ]
    refine wpList_build27 rfl (.const (.string ⟨#[65]⟩)) (.tmp 24) rfl ⟨#[65]⟩ 1 1 rfl rfl ?_
    simp only [List.getElem_toArray, Act.put, List.setIfInBounds_toArray, List.set_cons_zero, List.set_cons_succ]
    refine wpList_build25 rfl (.const (.int .i64 1)) (.const (.int .i64 1)) rfl 1 1 rfl rfl ?_
    simp only [List.getElem_toArray, Act.put, List.setIfInBounds_toArray, List.set_cons_zero, List.set_cons_succ]
    refine wpList_build27 rfl (.const (.string ⟨#[206, 177, 206, 178, 206, 179, 206, 180, 206, 181, 206, 182, 206, 183, 206, 184]⟩)) (.tmp 26) rfl ⟨#[206, 177, 206, 178, 206, 179, 206, 180, 206, 181, 206, 182, 206, 183, 206, 184]⟩ 1 1 rfl rfl ?_
    simp only [List.getElem_toArray, Act.put, List.setIfInBounds_toArray, List.set_cons_zero, List.set_cons_succ]
    refine wpList_build25 rfl (.const (.int .i64 1)) (.const (.int .i64 1)) rfl 1 1 rfl rfl ?_
    simp only [List.getElem_toArray, Act.put, List.setIfInBounds_toArray, List.set_cons_zero, List.set_cons_succ]
    refine wpList_build27 rfl (.const (.string ⟨#[97, 98, 99, 100, 101, 102, 103, 104, 105]⟩)) (.tmp 28) rfl ⟨#[97, 98, 99, 100, 101, 102, 103, 104, 105]⟩ 1 1 rfl rfl ?_
    simp only [List.getElem_toArray, Act.put, List.setIfInBounds_toArray, List.set_cons_zero, List.set_cons_succ]
    refine wpList_ten rfl (.tmp 11) (.tmp 13) (.tmp 15) (.tmp 17) (.tmp 19) (.tmp 21) (.tmp 23) (.tmp 25) (.tmp 27) (.tmp 29) rfl rfl rfl rfl rfl rfl rfl rfl rfl rfl rfl rfl ?_
    simp only [List.getElem_toArray, Act.put, List.setIfInBounds_toArray, List.set_cons_zero, List.set_cons_succ]
    have hcv1 := Lib.run_convert_bytes_const (P := Tryd.prog) ((w1.alloc (.cells cells10 27)).alloc (.cells #[.bool true, .bool false, .bool false, .bool true, .bool false, .bool false, .bool false, .bool false, .bool true, .bool false] 4)) 22 5 #[.int .u8 107] 1 1 Tryd.underlying22 Tryd.underlying5
    have hkr := key_row ((w1.alloc (.cells cells10 27)).alloc (.cells #[.bool true, .bool false, .bool false, .bool true, .bool false, .bool false, .bool false, .bool false, .bool true, .bool false] 4)) 107 (by omega)
    simp only [World.size_alloc] at hcv1 hkr
    have hA : Has (((w1.alloc (.cells cells10 27)).alloc (.cells #[.bool true, .bool false, .bool false, .bool true, .bool false, .bool false, .bool false, .bool false, .bool true, .bool false] 4)).alloc (.cells #[.int .u8 107] 5 (1, 2))) w1.heap.size 27 cells10 := ((has_new w1 27 cells10).more _).more _
    have hBo : Has (((w1.alloc (.cells cells10 27)).alloc (.cells #[.bool true, .bool false, .bool false, .bool true, .bool false, .bool false, .bool false, .bool false, .bool true, .bool false] 4)).alloc (.cells #[.int .u8 107] 5 (1, 2))) (w1.heap.size + 1) 4 (B10.map Value.bool).toArray := by
      have := has_new (w1.alloc (.cells cells10 27)) 4 (B10.map Value.bool).toArray
      rw [World.size_alloc] at this
      exact this.more _
    have bC : Below w.heap.size w (((w1.alloc (.cells cells10 27)).alloc (.cells #[.bool true, .bool false, .bool false, .bool true, .bool false, .bool false, .bool false, .bool false, .bool true, .bool false] 4)).alloc (.cells #[.int .u8 107] 5 (1, 2))) := b1.trans (((((Below.refl _ _).alloc (Nat.le_refl _) _).alloc (by simp) _).alloc (by simp; omega) _).mono b1.size)
    have hBI : (B10.map Value.bool).toArray[i]? = some (.bool false) := by
      rw [List.getElem?_toArray, List.getElem?_map, HBB.out]
      rfl
    have HB := Lib.hid (mbytes_any (some ⟨w1.heap.size + 1 + 1, 0, none⟩) 1 1 [107] m _ hkr (by omega) (by omega) HOK.out (ht.kept bC))
    clear hkr hcv
    go_wp2_with (first
      | (refine wpList_load10 rfl (.tmp 50) rfl w1.heap.size i rfl m hA HM.out hl ?_)
      | (go_at_call 12; (with_reducible refine HB.out.mono ?_); rintro e w2 ⟨v2, rfl, o2, b2⟩; clear HB; have b2' := bC.trans (b2.mono bC.size); have hA2 := hA.kept b2; have hB2 := hBo.kept b2; obtain ⟨A2, c2, rfl, hc2, r2, _⟩ := o2.form; clear o2; have HR := Lib.hid (read_any A2 92 c2 _ w2 r2 hc2 (by omega)))
      | (go_at_call 8; (with_reducible refine HR.out.mono ?_); rintro e w3 ⟨v3, rfl, o3, b3⟩; clear HR; rw [readM_no HG.out, readE_no HG.out]; rw [readT_no HG.out] at o3; obtain ⟨A3, c3, rfl, _, _, _⟩ := o3.form; clear o3; have b3' := b2'.trans (b3.mono b2'.size); have hA3 := hA2.kept b3; have hB3 := hB2.kept b3; have hne := has_new w3 27 zeroM.cells)
      | (refine Sha.wpList_row rfl 27 _ _ rfl w3.heap.size zeroM.cells rfl rfl 27 _ hne (size27 zero_len) (old27 zero_len zero_len) (mn_all _) ?_; intro w4 hs4 hon4; have q4 := (b3'.alloc b3'.size (.cells zeroM.cells 27)).size; have b4 := Sha.below_only (b3'.alloc b3'.size (.cells zeroM.cells 27)) hon4 b3'.size q4; have hA4 : Has w4 w1.heap.size 27 cells10 := Has.only (hA3.more _) (only_grown hon4) (by have := hA3.size; omega); have hB4 : Has w4 (w1.heap.size + 1) 4 (B10.map Value.bool).toArray := Has.only (hB3.more _) (only_grown hon4) (by have := hB3.size; omega); have cB4 : w4.cell? ⟨w1.heap.size + 1, i, none⟩ = some (.bool false) := (hB4.at i).trans hBI; have hx4 := sha_has hs4)
      | (go_at_call 14; (with_reducible refine (lnum_any _ _).mono ?_); rintro e wn ⟨rfl, rfl⟩)
      | (refine wpList_loadY (by rfl) (.tmp 6) rfl w3.heap.size rfl zeroM hx4 zero_len ?_)
      | (refine wpList_buildY (by rfl) rfl ?_)
      | (refine wpList_eqY (by rfl) (.tmp 76) (.tmp 77) rfl zeroM rfl rfl zero_len ?_))
    go_ret
    exact ⟨rfl, b4⟩
end Go.Proofs.YtjfalnhmmofdfaaDoor.manifestLimits

namespace Go.Proofs.YtjfalnhmmofdfaaDoor.manifestLimits
open Go.ChangeShapes Go.WideShapes Go.ChangeAt Go.RowKit
set_option linter.unusedVariables false

set_option maxRecDepth 100000 in
theorem lifted (os : Os) (started : os.Started) (H : Type) (enc : TypeId × Value → H) :
    ReturnsInHanded {} Tryd.checked os 6 .any (fun w args => (Rows.manifestLimitsSpec.pre enc Tryd.prog Tryd.f6 [] false w args ∧ laidMetH Tryd.prog Sha.laid2 w) ∧ sizedMet enc Tryd.prog Tryd.f6 (OpenSpec.ofChange Rows.manifestLimitsSpec) false w args)
      (Rows.manifestLimitsSpec.post enc Tryd.prog Tryd.f6 false true false false) := by
  refine returnsInHanded_of_change_and (C := Tryd.checked) (X := fun w _ => laidMetH Tryd.prog Sha.laid2 w) (fun _ _ _ hh h => h.of_heap hh) Sha.own started (by kernel_rfl) Tryd.func6
    (ChangeSpec.witness_shaped (enc := enc) (C := Tryd.checked) (os := os) (X := fun w _ => laidMetH Tryd.prog Sha.laid2 w) false (World.laidAll Tryd.prog os Sha.laid2) #[.int .i64 0] 8 (World.laidAll_os _ _ _) (World.shaped_of_ZipB (by kernel_rfl) (by kernel_rfl)) (by kernel_rfl) (by kernel_rfl) (by kernel_rfl) (Sha.lay_met os _)) ?_
  intro W base args ds gs before hval0 hW _ _ hL _
  have hval : ∀ (j : Nat) t v, Tryd.f6.params[j]? = some t → args[j]? = some v → Value.okWide Tryd.prog W .any base t v := hval0
  have hW' := hW
  obtain ⟨p, q, hA0, hV, rfl, hfz, hnd⟩ := hW
  have hA : DataW.TrodAll enc Tryd.prog W 0 (fun _ => true) true Tryd.f6.params.toList args.toList ds p := hA0
  rw [Tryd.params6] at hA hval
  obtain ⟨v0, vs0, d0, ds0, p0, q0, hargs, rfl, rfl, h0, r0⟩ := trodAll_cons hA
  obtain ⟨rfl, rfl, rfl⟩ := trodAll_nil r0
  obtain rfl : args = #[v0] := by cases args; simp_all
  obtain ⟨rfl, rfl⟩ := trodVars_none hV
  obtain ⟨a0, rfl, rfl, rfl, w0⟩ := open_int Tryd.underlying3 (hval 0 3 v0 rfl rfl) h0
  clear hA0 hval0
  refine (walk a0 W w0 (Sha.tabs_of_laid hL)).mono fun e W' ⟨he, bel⟩ => ?_
  subst he
  exact ⟨_, rfl, _, _, _, [], _, [], hW', trodAll_mk1 (shut_bool Tryd.underlying4 _), (trodAll_cons_mk (shut_int Tryd.underlying3 w0) trodAll_mk0), rfl, bel.frame _, fun h => by cases h⟩

theorem over : Rows.ManifestLimitsSaid :=
  OpenClaim.holds_of_wide 6 Tryd.f6 rfl rfl rfl rfl rfl rfl rfl ⟨rfl, rfl, rfl, rfl, rfl⟩ rfl rfl rfl rfl rfl (by kernel_rfl) Tryd.func6 (by kernel_rfl)
    (of_decide_eq_true (by kernel_rfl)) (by unfold Func.isWrapper; first | (rw [if_pos (by decide +kernel)]; kernel_rfl) | (rw [if_neg (by decide +kernel)]; exact ⟨rfl, rfl⟩))
    (fun os started H enc _ => lifted os started H enc)

theorem card : Rows.ManifestLimitsCardSaid :=
  Claim7.holds_tied_plain_at .later [] [.data, .data, .data, .pinned] true (true, "b38f52f34041b67d6d2caf1fc27a2f404c5d33e81173ef7ec2abf996b45de4b2") false
    over (fun _ h => by cases h) (by kernel_rfl) (fun _ h => by cases h) manifestLimits_row_tie rfl ⟨rfl, rfl⟩ (by kernel_rfl) rfl
    (fun f fn hf hfn => by
      obtain rfl : f = 6 := Option.some.inj ((show Tryd.prog.funcNamed Rows.manifestLimitsRow.func = some 6 by kernel_rfl).symm.trans hf) |>.symm
      obtain rfl : fn = Tryd.f6 := (Option.some.inj (Tryd.func6.symm.trans hfn)).symm
      exact ⟨by kernel_rfl, fun j t ht => by
        rw [Tryd.params6] at ht
        have hm : t ∈ [3] := by simpa using Array.mem_of_getElem? ht
        have hall : ([3].all fun u => !Tryd.prog.wantsStandIn u) = true := by kernel_rfl
        exact (show Tryd.prog.wantsStandIn t = false by simpa using List.all_eq_true.1 hall t hm)⟩)
    (by kernel_rfl)
end Go.Proofs.YtjfalnhmmofdfaaDoor.manifestLimits
namespace Go.Proofs.YtjfalnhmmofdfaaDoor
theorem ManifestLimits_holds : Rows.ManifestLimitsCardSaid := manifestLimits.card
#print axioms ManifestLimits_holds
end Go.Proofs.YtjfalnhmmofdfaaDoor
