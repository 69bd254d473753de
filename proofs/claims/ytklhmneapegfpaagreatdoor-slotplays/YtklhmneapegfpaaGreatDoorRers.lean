/-
  The document's Erase, CutAt, Power, Read; conditions: the flash is there, fewer than a million operations were done.
-/
import Derived.Test.YtklhmneapegfpaaGreatDoorRops
import Derived.Test.YtklhmneapegfpaaGreatDoorRnew
namespace Go.Proofs.YtklhmneapegfpaaGreatDoor
open Go.RowKit
set_option linter.unusedVariables false
set_option linter.unusedSimpArgs false

theorem rl_worn {w : World} {T g m k : Nat} {S : Fs} (hf : Rl w T g m k S) {s : Nat} (hs : s < S.wear.length) : RlTo T g m k (worn S s) w (w.setCell ⟨k, s, none⟩ (.int .i64 (S.wear.getD s 0 + 1))) := by
  obtain ⟨c, h, A, n, z, a, hc⟩ := hf
  obtain ⟨n1, n2, n3⟩ := a.ne (.inr rfl)
  have o : Only (fun b => b = k) w (w.setCell ⟨k, s, none⟩ (.int .i64 (S.wear.getD s 0 + 1))) := (Only.refl (fun b => b = k) w).setCell rfl _
  refine ⟨⟨c, h, A, n, z, ⟨worn_ok a.ok s, a.gT, a.mT, a.kT, ?_, a.mem.only o n3, bk_put_int a.wear s hs _⟩, hc.only o (fun b e => e ▸ a.kT)⟩, o.mono fun b e => .inr (.inr e)⟩
  have e : (worn S s).wear.length = S.wear.length := List.length_set ..
  rw [e]
  exact a.str.only o n2
theorem Rl.wcell {w : World} {T g m k : Nat} {S : Fs} (hf : Rl w T g m k S) {s : Nat} (hs : s < S.wear.length) : w.cell? ⟨k, s, none⟩ = some (.int .i64 (S.wear.getD s 0)) ∧ w.frozen? ⟨k, s, none⟩ = false := by
  obtain ⟨_, _, _, _, _, a, _⟩ := hf
  exact ⟨bk_int a.wear s hs, a.wear.soft s⟩
theorem make_320 (w : World) : (Instr.makeSlice 34 (.int .i64 320) (.int .i64 320)).run Tryz.prog w = .ok (.slice (some ⟨w.heap.size, 0, none⟩) 320 320) (w.alloc (.cells (zeroBytes 320) 5)) := make_bytes 320 (by omega) w
def Filling2 (G : Nat) (w1 : World) (i : Value) (wr : World) : Prop := ∃ j : Nat, i = .int .i64 (j : Int) ∧ j ≤ 320 ∧ Bk wr G 5 (nums (fillc 320 j)) ∧ Below w1.heap.size w1 wr
set_option maxRecDepth 100000 in
set_option maxHeartbeats 2000000 in
theorem rerase_any {T g m k : Nat} {S : Fs} (s : Int) (w : World) (hf : Rl w T g m k S) (hops : S.ops ≤ 1000000) (hfew : Few S) :
    Calls Tryz.prog 61 #[.pointer (some ⟨g, 0, none⟩), .int .i64 s] w fun e w' => e = .returned (.int .i64 (erase S s).1) ∧ RlTo T g m k (erase S s).2 w w' := by
  obtain ⟨c0, c1, _, c3, _⟩ := hf.cells
  have hN := hf.small
  cases ho : S.off with
  | true =>
    rw [erase_off ho]
    rw [ho] at c3
    go_enter Tryz.func61, Tryz.ntmps61
    go_wp2
    go_ret
    exact ⟨rfl, .refl hf⟩
  | false =>
    rw [ho] at c3
    by_cases h0 : s < 0
    · rw [erase_out ho (fun x => by have := x.1; omega)]
      go_enter Tryz.func61, Tryz.ntmps61
      go_wp2
      go_ret
      exact ⟨rfl, .refl hf⟩
    obtain ⟨s, rfl⟩ := Int.eq_ofNat_of_zero_le (show 0 ≤ s by omega)
    have d0 : decide ((s : Int) < 0) = false := by simp
    by_cases h1 : S.wear.length ≤ s
    · rw [erase_out ho (fun x => by have := x.2; omega)]
      have d1 : decide (S.wear.length ≤ s) = true := by simpa using h1
      go_enter Tryz.func61, Tryz.ntmps61
      go_wp2
      go_ret
      exact ⟨rfl, .refl hf⟩
    have d1 : decide (S.wear.length ≤ s) = false := by simpa using h1
    have hs : there S s := ⟨by omega, by omega⟩
    have hlt : s < S.wear.length := by omega
    have d2 : decide ((S.wear.length : Int) ≤ (s : Int)) = false := by simpa using h1
    rw [erase_ok' ho hs, Int.toNat_natCast]
    have hlen := hf.ok.len
    have h4 := hf.ok.few
    obtain ⟨q, qf⟩ := hf.wcell hlt
    have hx := hfew _ (getD_mem hlt)
    have F1 := rl_worn hf hlt
    generalize hy : S.wear.getD s 0 = y at *
    have hw : IntKind.i64.wrap (y + 1) = y + 1 := by rw [IntKind.wrap_i64]; omega
    have hy2 : y ≤ 1000000 := by omega
    have s0 : (0 : Int) ≤ (s : Int) := by omega
    have s1 : (s : Int) < (S.wear.length : Int) := by omega
    have s2 : (s : Int) ≤ 400 := by omega
    generalize hw1 : w.setCell ⟨k, s, none⟩ (.int .i64 (y + 1)) = w1 at *
    obtain ⟨f1, o1⟩ := F1
    have hwl : (worn S s).mem.length = S.mem.length := rfl
    have hmk := make_320 w1
    have HB0 := Lib.hid ((Below.refl _ w1).alloc (Nat.le_refl _) (.cells (zeroBytes 320) 5))
    have hst : Filling2 w1.heap.size w1 (.int .i64 0) (w1.alloc (.cells (zeroBytes 320) 5)) := ⟨0, rfl, by omega, by rw [fillc_none]; exact bk_all _ _ _ (has_new w1 5 _), HB0.out⟩
    have WA := Lib.hid (fun (w2 : World) (hb : Below w1.heap.size w1 w2) (hB : Bk w2 w1.heap.size 5 (nums (List.replicate 320 255))) =>
      rturn_any (320 * s) (some ⟨w1.heap.size, 0, none⟩) 320 320 ffs w2 (f1.kept hb) (made_row hB) (by rw [hwl]; omega) (.inr fun x hx e => by cases hx; have := f1.in _ e; simp only [] at this; omega) (show (worn S s).ops ≤ 1000000 from hops))
    have e3 : ((320 * s : Nat) : Int) = (s : Int) * 320 := by omega
    rw [e3] at WA
    clear hs hlen hf f1 hwl e3 hfew
    generalize hL : S.wear.length = L at *
    generalize hW2 : w1.alloc (.cells (zeroBytes 320) 5) = W2 at *
    go_enter Tryz.func61, Tryz.ntmps61
    go_wp2_with fail
    go_loopw [6] (fun i wr => Filling2 w1.heap.size w1 i wr) (fun i _ => 320 - (intOf i).toNat)
    case atStart => exact hst
    case round =>
      clear hst
      obtain ⟨j, rfl, hj, hbk, hb⟩ := hrel
      have j0 : (0 : Int) ≤ (j : Int) := by omega
      by_cases hlt2 : j < 320
      · have qb := bk_byte hbk j (by rw [fillc_len hj]; exact hlt2)
        have qf2 := hbk.soft j
        have hG2 := bk_put_byte hbk j (by rw [fillc_len hj]; exact hlt2) 255
        rw [fillc_next hlt2] at hG2
        have hb2 := hb.setCell (p := ⟨w1.heap.size, j, none⟩) (Nat.le_refl _) (.int .u8 255)
        generalize (fillc 320 j).getD j 0 = x at *
        clear hb hbk
        go_wp2
        go_roundw
        case rel => exact ⟨j + 1, by go_num, by omega, hG2, hb2⟩
        case measure => simp [intOf]; omega
      · obtain rfl : j = 320 := by omega
        rw [fillc_all] at hbk
        have HC := Lib.hid (WA.out wr hb hbk)
        have HBB := Lib.hid hb
        clear hb hbk
        go_wp2_with (go_at_call 80; refine HC.out.mono ?_; rintro e w3 ⟨rfl, F⟩)
        go_ret
        exact ⟨rfl, F.1, (o1.below HBB.out).trans F.2⟩
theorem rpower_any {T g m k : Nat} {S : Fs} (w : World) (hf : Rl w T g m k S) : Calls Tryz.prog 19 #[.pointer (some ⟨g, 0, none⟩)] w fun e w' => e = .returned (.tuple #[]) ∧ RlTo T g m k (power S) w w' := by
  have hok := hf.ok
  obtain ⟨c, h, A, n, z, a, hc⟩ := hf
  obtain ⟨c0, c1, c2, c3, c4, c5, c6⟩ := rl_cells a.str
  have s2 := a.str.soft 2
  obtain ⟨a1, o1⟩ := at_put a 2 (.bool false) (S' := { S with off := false }) rfl rfl (ok_off hok _)
  generalize hw1 : w.setCell ⟨g, 2, none⟩ (.bool false) = w1 at *
  have c3' : w1.cell? ⟨g, 3, none⟩ = some (.bool c) := a1.str.at 3
  have s3 := a1.str.soft 3
  obtain ⟨a2, o2⟩ := at_put a1 3 (.bool false) (S' := power S) rfl rfl (power_ok hok)
  have F := Lib.hid (show RlTo T g m k (power S) w (w1.setCell ⟨g, 3, none⟩ (.bool false)) from ⟨⟨false, h, A, n, z, a2, rfl⟩, (only_g o1).trans (only_g o2)⟩)
  clear a a1 a2 o1 o2 hc c3 c4 c5 c6 c0 c1
  go_enter Tryz.func19, Tryz.ntmps19
  go_wp2
  go_end0
  exact ⟨rfl, F.out⟩
set_option maxRecDepth 100000 in
set_option maxHeartbeats 1000000 in
theorem rcutAt_any {T g m k : Nat} {S : Fs} (q : Int) (A : Option Addr) (n z : Nat) (zs : List Int) (w : World) (hf : Rl w T g m k S) (hr : Row w A n zs) (hA : Clear g m k A n) (hn : n ≤ 100000) (hT : T ≤ w.heap.size) :
    Calls Tryz.prog 10 #[.pointer (some ⟨g, 0, none⟩), .int .i64 q, .slice A n z] w fun e w' => e = .returned (.tuple #[]) ∧ RlTo T g m k (cutAt S (min (max q 0) 1073741824).toNat zs) w w' := by
  have hok := hf.ok
  have hin := hf.in
  obtain ⟨c, h, B, n', z', a, hc⟩ := hf
  obtain ⟨c0, c1, c2, c3, c4, c5, c6⟩ := rl_cells a.str
  have hgs := a.str.size
  have s3 := a.str.soft 3
  obtain ⟨a1, o1⟩ := at_put a 3 (.bool true) (S' := S) rfl rfl hok
  generalize hw1 : w.setCell ⟨g, 3, none⟩ (.bool true) = w1 at *
  have RC := Lib.hid (rcut_any q 0 1073741824 w1 (by omega))
  obtain ⟨Q, hQ, hQ2⟩ : ∃ Q : Nat, (min (max q 0) 1073741824) = (Q : Int) ∧ Q ≤ 1073741824 := ⟨(min (max q 0) 1073741824).toNat, by omega, by omega⟩
  rw [hQ] at RC
  rw [hQ, Int.toNat_natCast]
  have c4' : w1.cell? ⟨g, 4, none⟩ = some (.int .i64 h) := a1.str.at 4
  have s4 := a1.str.soft 4
  obtain ⟨a2, o2⟩ := at_put a1 4 (.int .i64 (Q : Int)) (S' := S) rfl rfl hok
  generalize hw2 : w1.setCell ⟨g, 4, none⟩ (.int .i64 (Q : Int)) = w2 at *
  have o12 : Only (In3 g m k) w w2 := (only_g o1).trans (only_g o2)
  have hr2 := row_clear hr o12 hA
  have own0 := own_nil w2 w2.heap.size
  have HA2 := Lib.hid a2
  have HO2 := Lib.hid o12
  clear a a1 a2 hc o1 o2 c5 c6 c0 c1 c2 o12
  go_enter Tryz.func10, Tryz.ntmps10
  go_wp2_with (first
    | (go_at_call 27; refine RC.out.mono ?_; rintro e w9 ⟨rfl, rfl⟩)
    | (at_builtin; (with_reducible refine wpList_app rfl _ _ rfl w2.heap.size (.slice none 0 0) 0 [] rfl own0 A n z zs rfl hr2 (row_none hr2) (by omega) (Nat.le_refl _) ?_); intro v3 w3 own3 g3; have b3 := below_own (Below.refl _ w2) own0 g3 (Nat.le_refl _) (Nat.le_refl _); rw [Nat.zero_add, List.nil_append] at own3; obtain ⟨A3, z3, rfl, hz3, hr3, hb3⟩ := own3.form; have a3 := HA2.out.only (p := fun _ => False) (Only.of_below b3) (fun b hb => hb.elim); have c5' : w3.cell? ⟨g, 5, none⟩ = some (.slice B n' z') := a3.str.at 5; have s5 := a3.str.soft 5; obtain ⟨a4, o4⟩ := at_put a3 5 (.slice A3 n z3) (S' := cutAt S Q zs) rfl rfl (cutAt_ok hok Q hr3.2.1 (by rw [hr3.1]; omega)); have FIN := Lib.hid (show RlTo T g m k (cutAt S Q zs) w (w3.setCell ⟨g, 5, none⟩ (.slice A3 n z3)) from ⟨⟨true, Q, A3, n, z3, a4, rfl, rfl, by unfold Fits63; omega, row_keep hr3 o4 (fun x hx e => by have := (hb3 x hx).1; have := HA2.out.str.size; omega), hz3, fun x hx => by have := (hb3 x hx).1; have := HO2.out.size; omega⟩, (HO2.out.below b3).trans (only_g o4)⟩); clear a3 a4 o4))
  go_end0
  exact ⟨rfl, FIN.out⟩
theorem Rl.bytes {w : World} {T g m k : Nat} {S : Fs} (hf : Rl w T g m k S) {a n : Nat} (h : a + n ≤ S.mem.length) : Row w (some ⟨m, a, none⟩) n ((S.mem.drop a).take n) := by
  obtain ⟨_, _, _, _, _, x, _⟩ := hf
  exact bk_row x.mem x.ok.byt a n h
set_option maxRecDepth 100000 in
set_option maxHeartbeats 1000000 in
theorem rread_any {T g m k : Nat} {S : Fs} (a n : Int) (w : World) (ha : I64 a) (hn : I64 n) (hf : Rl w T g m k S) : Calls Tryz.prog 52 #[.pointer (some ⟨g, 0, none⟩), .int .i64 a, .int .i64 n] w (Gives (read S a n) w) := by
  obtain ⟨c0, _⟩ := hf.cells
  have hN := hf.small
  by_cases h1 : n < 1
  · rw [read_no (by omega)]
    go_enter Tryz.func52, Tryz.ntmps52
    go_wp2
    go_ret
    exact gives_nil w
  have h1' : decide (n < 1) = false := by simpa using h1
  by_cases h2 : (S.mem.length : Int) < n
  · rw [read_no (by omega)]
    have h2' : decide ((S.mem.length : Int) < n) = true := by simpa using h2
    go_enter Tryz.func52, Tryz.ntmps52
    go_wp2
    go_ret
    exact gives_nil w
  have h2' : decide ((S.mem.length : Int) < n) = false := by simpa using h2
  by_cases h3 : a < 0
  · rw [read_no (by omega)]
    have h3' : decide (a < 0) = true := by simpa using h3
    go_enter Tryz.func52, Tryz.ntmps52
    go_wp2
    go_ret
    exact gives_nil w
  have h3' : decide (a < 0) = false := by simpa using h3
  by_cases h4 : (S.mem.length : Int) - n < a
  · rw [read_no (by omega)]
    have h4' : decide ((S.mem.length : Int) - n < a) = true := by simpa using h4
    go_enter Tryz.func52, Tryz.ntmps52
    go_wp2
    go_ret
    exact gives_nil w
  have h4' : decide ((S.mem.length : Int) - n < a) = false := by simpa using h4
  obtain ⟨a, rfl⟩ := Int.eq_ofNat_of_zero_le (show 0 ≤ a by omega)
  obtain ⟨n, rfl⟩ := Int.eq_ofNat_of_zero_le (show 0 ≤ n by omega)
  have h5 : a + n ≤ S.mem.length := by omega
  rw [read_yes (by omega) h5]
  have hl : ((S.mem.drop a).take n).length = n := by rw [List.length_take, List.length_drop]; omega
  have hr := hf.bytes h5
  have own0 := own_nil w w.heap.size
  have n1 : ¬ S.mem.length = a := by omega
  have n2 : (a : Int) ≤ (S.mem.length : Int) := by omega
  have n3 : (a : Int) + (n : Int) ≤ (S.mem.length : Int) := by omega
  have n4 : (a : Int) ≤ (a : Int) + (n : Int) := by omega
  have n5 : (0 : Int) ≤ (a : Int) := by omega
  have n6 : ¬ (n : Int) < 1 := by omega
  have n7 := Lib.hid (show a + n - a = n by omega)
  have hr' : Row w (some ⟨m, a, none⟩) (a + n - a) ((S.mem.drop a).take n) := by rw [n7.out]; exact hr
  have HG := Lib.hid hl
  clear hf hl hr
  generalize (S.mem.drop a).take n = ys at *
  generalize hNe : S.mem.length = N at *
  clear hNe
  go_enter Tryz.func52, Tryz.ntmps52
  go_wp2_with (first
    | (at_builtin; (with_reducible refine wpList_app rfl _ _ rfl w.heap.size (.slice none 0 0) 0 [] rfl own0 _ (a + n - a) (N - a) ys rfl hr' (row_none hr') (by omega) (Nat.le_refl _) ?_); intro v3 w3 own3 g3; have b3 := below_own (Below.refl _ w) own0 g3 (Nat.le_refl _) (Nat.le_refl _); rw [Nat.zero_add, List.nil_append, n7.out] at own3; obtain ⟨A3, z3, rfl, hz3, hr3, hb3⟩ := own3.form))
  go_ret
  refine ⟨A3, z3, ?_, ?_, ?_, fun x hx => (hb3 x hx).1, b3⟩
  · rw [HG.out]; rfl
  · rw [HG.out]; exact hz3
  · rw [HG.out]; exact hr3
end Go.Proofs.YtklhmneapegfpaaGreatDoor
