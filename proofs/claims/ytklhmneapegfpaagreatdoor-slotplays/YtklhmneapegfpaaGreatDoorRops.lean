/-
  The document's Program, Erase, CutAt, Power, Read; conditions: the flash is there, fewer than a million operations were done, the row does not lie in the flash.
-/
import Derived.Test.YtklhmneapegfpaaGreatDoorTurn
namespace Go.Proofs.YtklhmneapegfpaaGreatDoor
open Go.RowKit
set_option linter.unusedVariables false
set_option linter.unusedSimpArgs false

theorem rturn_any {T g m k : Nat} {S : Fs} (a : Nat) (A : Option Addr) (n z : Nat) (zs : List Int) (w : World) (hf : Rl w T g m k S) (hr : Row w A n zs) (ha : a + n ≤ S.mem.length) (hA : Clear g m k A n) (hops : S.ops ≤ 1000000) :
    Calls Tryz.prog 80 #[.pointer (some ⟨g, 0, none⟩), .int .i64 (a : Int), .slice A n z] w fun e w' => e = .returned (.int .i64 (work S a zs).1) ∧ RlTo T g m k (work S a zs).2 w w' := by
  match hc : S.cut with
  | none => exact rturn_none hc a A n z zs w hf hr ha hA hops
  | some (0, []) => exact rturn_bare hc a A n z zs w hf hr ha hA hops
  | some (0, x :: ms) => exact rturn_now (x :: ms) hc (by simp) a A n z zs w hf hr ha hA hops
  | some (q + 1, ms) => exact rturn_later q ms hc a A n z zs w hf hr ha hA hops
theorem Rl.cells {w : World} {T g m k : Nat} {S : Fs} (hf : Rl w T g m k S) : w.cell? ⟨g, 0, none⟩ = some (.slice (some ⟨m, 0, none⟩) S.mem.length S.mem.length) ∧ w.cell? ⟨g, 1, none⟩ = some (.slice (some ⟨k, 0, none⟩) S.wear.length S.wear.length) ∧ w.cell? ⟨g, 6, none⟩ = some (.int .i64 (S.ops : Int)) ∧ w.cell? ⟨g, 2, none⟩ = some (.bool S.off) ∧ ∀ i, w.frozen? ⟨g, i, none⟩ = false := by
  obtain ⟨_, _, _, _, _, h, _⟩ := hf
  obtain ⟨c0, c1, c2, c3, c4, c5, c6⟩ := rl_cells h.str
  exact ⟨c0, c1, c6, c2, fun i => h.str.soft i⟩
theorem Rl.small {w : World} {T g m k : Nat} {S : Fs} (hf : Rl w T g m k S) : S.mem.length ≤ 128000 := by have := hf.ok.len; have := hf.ok.few; omega
theorem Rl.in {w : World} {T g m k : Nat} {S : Fs} (hf : Rl w T g m k S) : ∀ b, In3 g m k b → b < w.heap.size := by
  obtain ⟨_, _, _, _, _, a, _⟩ := hf
  rintro b (rfl | rfl | rfl)
  · exact a.str.size
  · exact a.mem.size
  · exact a.wear.size
theorem Rl.byte {w : World} {T g m k : Nat} {S : Fs} (hf : Rl w T g m k S) {i : Nat} (hi : i < S.mem.length) : w.cell? ⟨m, i, none⟩ = some (.int .u8 (S.mem.getD i 0)) := by
  obtain ⟨_, _, _, _, _, a, _⟩ := hf
  exact bk_byte a.mem i hi
theorem RlTo.refl {w : World} {T g m k : Nat} {S : Fs} (hf : Rl w T g m k S) : RlTo T g m k S w w := ⟨hf, Only.refl _ _⟩
/-- So many bytes were looked at. -/
def Looked (mem : List Int) (a : Nat) (zs : List Int) (n : Nat) (w : World) (i : Value) (wr : World) : Prop := ∃ j : Nat, i = .int .i64 (j : Int) ∧ j ≤ n ∧ setsN mem a zs j = false ∧ Below w.heap.size w wr
set_option maxRecDepth 100000 in
set_option maxHeartbeats 2000000 in
theorem rprogram_any {T g m k : Nat} {S : Fs} (a : Int) (A : Option Addr) (n z : Nat) (zs : List Int) (w : World) (ha : I64 a) (hf : Rl w T g m k S) (hr : Row w A n zs) (hn : n ≤ 1000000) (hA : Clear g m k A n) (hops : S.ops ≤ 1000000) :
    Calls Tryz.prog 63 #[.pointer (some ⟨g, 0, none⟩), .int .i64 a, .slice A n z] w fun e w' => e = .returned (.int .i64 (prog S a zs).1) ∧ RlTo T g m k (prog S a zs).2 w w' := by
  obtain ⟨c0, _, _, c3, _⟩ := hf.cells
  have hN := hf.small
  have hl := hr.1
  cases ho : S.off with
  | true =>
    rw [prog_off ho]
    rw [ho] at c3
    go_enter Tryz.func63, Tryz.ntmps63
    go_wp2
    go_ret
    exact ⟨rfl, .refl hf⟩
  | false =>
    rw [ho] at c3
    by_cases h0 : a < 0
    · rw [prog_out ho (fun x => by have := x.1; omega)]
      go_enter Tryz.func63, Tryz.ntmps63
      go_wp2
      go_ret
      exact ⟨rfl, .refl hf⟩
    obtain ⟨a, rfl⟩ := Int.eq_ofNat_of_zero_le (show 0 ≤ a by omega)
    have d0 : decide ((a : Int) < 0) = false := by simp
    by_cases h1 : S.mem.length < a
    · rw [prog_out ho (fun x => by have := x.2; omega)]
      have d1 : decide (S.mem.length < a) = true := by simpa using h1
      have d2 : ((S.mem.length : Int) < (a : Int)) := by omega
      go_enter Tryz.func63, Tryz.ntmps63
      go_wp2
      go_ret
      exact ⟨rfl, .refl hf⟩
    have d1 : decide (S.mem.length < a) = false := by simpa using h1
    have d2 : ¬ ((S.mem.length : Int) < (a : Int)) := by omega
    by_cases h2 : (S.mem.length : Int) - (a : Int) < (n : Int)
    · rw [prog_out ho (fun x => by have := x.2; omega)]
      go_enter Tryz.func63, Tryz.ntmps63
      go_wp2
      go_ret
      exact ⟨rfl, .refl hf⟩
    have d3 : decide ((S.mem.length : Int) - (a : Int) < (n : Int)) = false := by simpa using h2
    have hfit : fits S a zs.length := ⟨by omega, by omega⟩
    have h3 : a + n ≤ S.mem.length := by omega
    have HX := Lib.hid (show ∀ wr, Below w.heap.size w wr → Row wr A n zs ∧ Rl wr T g m k S ∧ wr.cell? ⟨g, 0, none⟩ = some (.slice (some ⟨m, 0, none⟩) S.mem.length S.mem.length) from fun wr b => ⟨row_below b hr, hf.kept b, (hf.kept b).cells.1⟩)
    have HQ := Lib.hid (show ∀ wr, Below w.heap.size w wr → ∀ j, j < n → wr.cell? ⟨m, a + j, none⟩ = some (.int .u8 (S.mem.getD (a + j) 0)) from fun wr b j hj => (hf.kept b).byte (by omega))
    have HZ := Lib.hid (show Byt zs ∧ Byt S.mem from ⟨hr.2.1, hf.ok.byt⟩)
    have HL := Lib.hid hl
    have HS := Lib.hid (show ∀ wr, Below w.heap.size w wr → sets S.mem a zs = false → Calls Tryz.prog 80 #[.pointer (some ⟨g, 0, none⟩), .int .i64 (a : Int), .slice A n z] wr fun e w' => e = .returned (.int .i64 (prog S a zs).1) ∧ RlTo T g m k (prog S a zs).2 wr w' from fun wr b hs => by
      rw [prog_ok' ho hfit hs, Int.toNat_natCast]
      exact rturn_any a A n z zs wr (hf.kept b) (row_below b hr) h3 hA hops)
    have HY := Lib.hid (show ∀ wr, Below w.heap.size w wr → sets S.mem a zs = true → (prog S a zs).1 = 3 ∧ RlTo T g m k (prog S a zs).2 w wr from fun wr b hs => by
      rw [prog_set ho hfit hs]
      exact ⟨rfl, hf.kept b, Only.of_below b⟩)
    clear hfit hf hr hl hA
    generalize prog S a zs = P at *
    generalize hNe : S.mem.length = N at *
    go_enter Tryz.func63, Tryz.ntmps63
    go_wp2_with fail
    go_loopw [7] (fun i wr => Looked S.mem a zs n w i wr) (fun i _ => n - (intOf i).toNat)
    case atStart => exact ⟨0, rfl, by omega, setsN_zero _ _ _, Below.refl _ _⟩
    case round =>
      obtain ⟨j, rfl, hj, hset, hb⟩ := hrel
      have HSET := Lib.hid hset
      have HB := Lib.hid hb
      clear hset hb
      have j0 : (0 : Int) ≤ (j : Int) := by omega
      by_cases hlt : j < n
      · have j1 : (j : Int) < (n : Int) := by omega
        obtain ⟨hr, _, c0'⟩ := HX.out wr HB.out
        obtain ⟨b, off, rfl, hw, hcell⟩ := row_open hr (by omega)
        have qb := hcell j hlt
        have qm := HQ.out wr HB.out j hlt
        have i5 : (a : Int) + (j : Int) < (N : Int) := by omega
        have i6 : (0 : Int) ≤ (a : Int) + (j : Int) := by omega
        have e7 : ((a : Int) + (j : Int)).toNat = a + j := by omega
        have HE := clear_is (byt_at HZ.out.1 j) (byt_at HZ.out.2 (a + j))
        clear hcell hr
        by_cases hx : bits .andNot .u8 (zs.getD j 0) (S.mem.getD (a + j) 0) = 0
        · have HN := Lib.hid (setsN_more _ _ _ _ HSET.out hx)
          generalize S.mem.getD (a + j) 0 = y at *
          generalize zs.getD j 0 = x at *
          go_wp2_with fail
          go_region
          go_wp2
          go_roundw
          case rel => exact ⟨j + 1, by go_num, by omega, HN.out, HB.out.drew⟩
          case measure => simp [intOf]; omega
        · have HN := Lib.hid (sets_yes S.mem a zs j (by rw [HL.out]; exact hlt) hx)
          generalize S.mem.getD (a + j) 0 = y at *
          generalize zs.getD j 0 = x at *
          have hbb : (bits .andNot .u8 x y != 0) = true := by simpa using hx
          go_wp2_with fail
          go_region
          go_wp2
          go_ret
          obtain ⟨p1, p2⟩ := HY.out wr.drew HB.out.drew HN.out
          exact ⟨ret_int p1.symm, p2⟩
      · obtain rfl : j = n := by omega
        have HN := Lib.hid (show sets S.mem a zs = false by unfold sets; rw [HL.out]; exact HSET.out)
        go_wp2_with (go_at_call 80; refine (HS.out wr HB.out HN.out).mono ?_; rintro e w2 ⟨rfl, F⟩)
        go_ret
        exact ⟨rfl, F.1, (Only.of_below HB.out).trans F.2⟩
end Go.Proofs.YtklhmneapegfpaaGreatDoor
