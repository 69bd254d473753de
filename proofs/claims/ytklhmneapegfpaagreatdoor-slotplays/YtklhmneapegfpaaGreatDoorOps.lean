/-
  The program's Program, Erase, Cut, Read; conditions: the flash is there, fewer than a million operations were done, the row does not lie in the flash.
-/
import Derived.Test.YtklhmneapegfpaaGreatDoorProgram
namespace Go.Proofs.YtklhmneapegfpaaGreatDoor
open Go.RowKit
set_option linter.unusedVariables false
set_option linter.unusedSimpArgs false

def I64 (a : Int) : Prop := -9223372036854775808 ≤ a ∧ a ≤ 9223372036854775807
theorem FlTo.refl {w : World} {T g m k : Nat} {S : Fs} (hf : Fl w T g m k S) : FlTo T g m k S w w := ⟨hf, Only.refl _ _⟩
set_option maxRecDepth 100000 in
set_option maxHeartbeats 1000000 in
theorem program_any {T g m k : Nat} {S : Fs} (a : Int) (A : Option Addr) (n z : Nat) (zs : List Int) (w : World) (ha : I64 a) (hf : Fl w T g m k S) (hr : Row w A n zs) (hA : Clear g m k A n) (hops : S.ops ≤ 1000000) :
    Calls Tryz.prog 79 #[.pointer (some ⟨g, 0, none⟩), .int .i64 a, .slice A n z] w fun e w' => e = .returned (.int .i64 (prog S a zs).1) ∧ FlTo T g m k (prog S a zs).2 w w' := by
  obtain ⟨c0, _, _, c3, _⟩ := hf.cells
  have hN := hf.small
  have hl := hr.1
  cases ho : S.off with
  | true =>
    rw [prog_off ho]
    rw [ho] at c3
    go_enter Tryz.func79, Tryz.ntmps79
    go_wp2_with (first
      | (go_at_call 30; refine (there_any g _).mono ?_; rintro e w1 ⟨rfl, rfl⟩))
    go_ret
    exact ⟨rfl, .refl hf⟩
  | false =>
    rw [ho] at c3
    by_cases hfit : fits S a zs.length
    · obtain ⟨a, rfl⟩ := Int.eq_ofNat_of_zero_le hfit.1
      have h2 : a + n ≤ S.mem.length := by have := hfit.2; omega
      have WY := Lib.hid (within_yes g m S.mem.length a n w c0 (by omega) ha.2 (by omega) (by omega))
      have SA := Lib.hid (sets_any a A n z zs w hf hr h2)
      cases hs : sets S.mem a zs with
      | true =>
        rw [prog_set ho hfit hs]
        rw [hs] at SA
        go_enter Tryz.func79, Tryz.ntmps79
        go_wp2_with (first
          | (go_at_call 30; refine (there_any g _).mono ?_; rintro e w1 ⟨rfl, rfl⟩)
          | (go_at_call 71; refine WY.out.mono ?_; rintro e w1 ⟨rfl, rfl⟩)
          | (go_at_call 93; refine SA.out.mono ?_; rintro e w1 ⟨rfl, rfl⟩))
        go_ret
        exact ⟨rfl, .refl hf⟩
      | false =>
        rw [prog_ok' ho hfit hs, Int.toNat_natCast]
        rw [hs] at SA
        have WA := Lib.hid (work_any a A n z zs w hf hr h2 hA hops)
        go_enter Tryz.func79, Tryz.ntmps79
        go_wp2_with (first
          | (go_at_call 30; refine (there_any g _).mono ?_; rintro e w1 ⟨rfl, rfl⟩)
          | (go_at_call 71; refine WY.out.mono ?_; rintro e w1 ⟨rfl, rfl⟩)
          | (go_at_call 93; refine SA.out.mono ?_; rintro e w1 ⟨rfl, rfl⟩)
          | (go_at_call 92; refine WA.out.mono ?_; rintro e w1 ⟨rfl, F⟩))
        go_ret
        exact ⟨rfl, F⟩
    · rw [prog_out ho hfit]
      have WN := Lib.hid (within_no g m S.mem.length a n w c0 ha.2 (by omega) (fun x => hfit ⟨x.1, by omega⟩))
      go_enter Tryz.func79, Tryz.ntmps79
      go_wp2_with (first
        | (go_at_call 30; refine (there_any g _).mono ?_; rintro e w1 ⟨rfl, rfl⟩)
        | (go_at_call 71; refine WN.out.mono ?_; rintro e w1 ⟨rfl, rfl⟩))
      go_ret
      exact ⟨rfl, .refl hf⟩
/-- One more erase of a sector. -/
theorem fl_worn {w : World} {T g m k : Nat} {S : Fs} (hf : Fl w T g m k S) {s : Nat} (hs : s < S.wear.length) : FlTo T g m k (worn S s) w (w.setCell ⟨k, s, none⟩ (.int .i64 (S.wear.getD s 0 + 1))) := by
  obtain ⟨c, h, A, n, z, a, hc⟩ := hf
  obtain ⟨n1, n2, n3⟩ := a.ne (.inl rfl)
  have o : Only (fun b => b = k) w (w.setCell ⟨k, s, none⟩ (.int .i64 (S.wear.getD s 0 + 1))) := (Only.refl (fun b => b = k) w).setCell rfl _
  refine ⟨⟨c, h, A, n, z, ⟨worn_ok a.ok s, a.gT, a.mT, a.kT, ?_, a.mem.only o n3, bk_put_int a.wear s hs _⟩, hc.only o (fun b e => e ▸ a.kT)⟩, o.mono fun b e => .inr (.inr e)⟩
  have e : (worn S s).wear.length = S.wear.length := List.length_set ..
  rw [e]
  exact a.str.only o n2
theorem Fl.in {w : World} {T g m k : Nat} {S : Fs} (hf : Fl w T g m k S) : ∀ b, In3 g m k b → b < w.heap.size := by
  obtain ⟨_, _, _, _, _, a, _⟩ := hf
  rintro b (rfl | rfl | rfl)
  · exact a.str.size
  · exact a.mem.size
  · exact a.wear.size
theorem Fl.wcell {w : World} {T g m k : Nat} {S : Fs} (hf : Fl w T g m k S) {s : Nat} (hs : s < S.wear.length) : w.cell? ⟨k, s, none⟩ = some (.int .i64 (S.wear.getD s 0)) ∧ w.frozen? ⟨k, s, none⟩ = false := by
  obtain ⟨_, _, _, _, _, a, _⟩ := hf
  exact ⟨bk_int a.wear s hs, a.wear.soft s⟩
theorem made_row {w : World} {G : Nat} (h : Bk w G 5 (nums (List.replicate 320 255))) : Row w (some ⟨G, 0, none⟩) 320 ffs := by
  have := bk_row h (byt_same _ _ (by omega)) 0 320 (by rw [List.length_replicate]; omega)
  rw [List.drop_zero, List.take_replicate, Nat.min_self] at this
  exact this
set_option maxRecDepth 100000 in
set_option maxHeartbeats 1000000 in
theorem erase_any {T g m k : Nat} {S : Fs} (s : Int) (w : World) (hf : Fl w T g m k S) (hops : S.ops ≤ 1000000) (hfew : Few S) :
    Calls Tryz.prog 78 #[.pointer (some ⟨g, 0, none⟩), .int .i64 s] w fun e w' => e = .returned (.int .i64 (erase S s).1) ∧ FlTo T g m k (erase S s).2 w w' := by
  obtain ⟨c0, c1, _, c3, _⟩ := hf.cells
  have hN := hf.small
  cases ho : S.off with
  | true =>
    rw [erase_off ho]
    rw [ho] at c3
    go_enter Tryz.func78, Tryz.ntmps78
    go_wp2_with (first
      | (go_at_call 30; refine (there_any g _).mono ?_; rintro e w1 ⟨rfl, rfl⟩))
    go_ret
    exact ⟨rfl, .refl hf⟩
  | false =>
    rw [ho] at c3
    by_cases hs : there S s
    · rw [erase_ok' ho hs]
      obtain ⟨s, rfl⟩ := Int.eq_ofNat_of_zero_le hs.1
      rw [Int.toNat_natCast]
      have hlt : s < S.wear.length := by have := hs.2; omega
      have HY := Lib.hid (has_yes g k S.wear.length s w c1 hlt)
      have hlen := hf.ok.len
      have h4 := hf.ok.few
      obtain ⟨q, qf⟩ := hf.wcell hlt
      have hx := hfew _ (getD_mem hlt)
      have F1 := fl_worn hf hlt
      generalize hy : S.wear.getD s 0 = y at *
      have hw : IntKind.i64.wrap (y + 1) = y + 1 := by rw [IntKind.wrap_i64]; omega
      have hy2 : y ≤ 1000000 := by omega
      have s0 : (0 : Int) ≤ (s : Int) := by omega
      have s1 : (s : Int) < (S.wear.length : Int) := by omega
      have s2 : (s : Int) ≤ 400 := by omega
      generalize hw1 : w.setCell ⟨k, s, none⟩ (.int .i64 (y + 1)) = w1 at *
      obtain ⟨f1, o1⟩ := F1
      have ER := Lib.hid (erased_any 320 w1 (by omega))
      have F1' := Lib.hid f1
      have hwl : (worn S s).mem.length = S.mem.length := rfl
      have WA := Lib.hid (fun (w2 : World) (G : Nat) (hb : Below w1.heap.size w1 w2) (hG : w1.heap.size ≤ G) (hB : Bk w2 G 5 (nums (List.replicate 320 255))) =>
        work_any (320 * s) (some ⟨G, 0, none⟩) 320 320 ffs w2 (f1.kept hb) (made_row hB) (by rw [hwl]; omega) (.inr fun x hx e => by cases hx; have := f1.in _ e; simp only [] at this; omega) (show (worn S s).ops ≤ 1000000 from hops))
      have e3 : ((320 * s : Nat) : Int) = (s : Int) * 320 := by omega
      rw [e3] at WA
      clear hs hlen hf f1 hwl e3
      generalize hL : S.wear.length = L at *
      go_enter Tryz.func78, Tryz.ntmps78
      go_wp2_with (first
        | (go_at_call 30; refine (there_any g _).mono ?_; rintro e w1 ⟨rfl, rfl⟩)
        | (go_at_call 72; refine HY.out.mono ?_; rintro e w1 ⟨rfl, rfl⟩)
        | (go_at_call 26; refine ER.out.mono ?_; rintro e w2 ⟨G, rfl, hG, hB, hbel⟩)
        | (go_at_call 92; refine (WA.out w2 G hbel hG hB).mono ?_; rintro e w3 ⟨rfl, F⟩))
      go_ret
      exact ⟨rfl, F.1, (o1.below hbel).trans F.2⟩
    · rw [erase_out ho hs]
      have HN := Lib.hid (has_no g k S.wear.length s w c1 hs)
      go_enter Tryz.func78, Tryz.ntmps78
      go_wp2_with (first
        | (go_at_call 30; refine (there_any g _).mono ?_; rintro e w1 ⟨rfl, rfl⟩)
        | (go_at_call 72; refine HN.out.mono ?_; rintro e w1 ⟨rfl, rfl⟩))
      go_ret
      exact ⟨rfl, .refl hf⟩
/-- A call answers a new row. -/
def Gives (zs : List Int) (w : World) (e : Ending) (w' : World) : Prop := ∃ A c, e = .returned (.slice A zs.length c) ∧ zs.length ≤ c ∧ Row w' A zs.length zs ∧ (∀ x, A = some x → w.heap.size ≤ x.block) ∧ Below w.heap.size w w'
theorem gives_nil (w : World) : Gives [] w (.returned (.slice none 0 0)) w := ⟨none, 0, rfl, Nat.le_refl _, row_nil w, fun x hx => (by cases hx), Below.refl _ _⟩
theorem read_yes {S : Fs} {a n : Nat} (h1 : 1 ≤ n) (h : a + n ≤ S.mem.length) : read S a n = (S.mem.drop a).take n := by
  unfold read
  rw [if_pos ⟨by omega, by omega, by omega⟩, Int.toNat_natCast, Int.toNat_natCast]
theorem read_no {S : Fs} {a n : Int} (h : ¬ (1 ≤ n ∧ 0 ≤ a ∧ a + n ≤ S.mem.length)) : read S a n = [] := by unfold read; rw [if_neg h]
theorem Fl.bytes {w : World} {T g m k : Nat} {S : Fs} (hf : Fl w T g m k S) {a n : Nat} (h : a + n ≤ S.mem.length) : Row w (some ⟨m, a, none⟩) n ((S.mem.drop a).take n) := by
  obtain ⟨_, _, _, _, _, x, _⟩ := hf
  exact bk_row x.mem x.ok.byt a n h
set_option maxRecDepth 100000 in
set_option maxHeartbeats 1000000 in
theorem read_any {T g m k : Nat} {S : Fs} (a n : Int) (w : World) (ha : I64 a) (hn : I64 n) (hf : Fl w T g m k S) : Calls Tryz.prog 48 #[.pointer (some ⟨g, 0, none⟩), .int .i64 a, .int .i64 n] w (Gives (read S a n) w) := by
  obtain ⟨c0, _⟩ := hf.cells
  have hN := hf.small
  by_cases h1 : n < 1
  · rw [read_no (by omega)]
    go_enter Tryz.func48, Tryz.ntmps48
    go_wp2_with (first
      | (go_at_call 30; refine (there_any g _).mono ?_; rintro e w1 ⟨rfl, rfl⟩))
    go_ret
    exact gives_nil w
  by_cases hfit : 0 ≤ a ∧ n ≤ (S.mem.length : Int) - a
  · obtain ⟨a, rfl⟩ := Int.eq_ofNat_of_zero_le hfit.1
    obtain ⟨n, rfl⟩ := Int.eq_ofNat_of_zero_le (show 0 ≤ n by omega)
    have h2 : a + n ≤ S.mem.length := by omega
    rw [read_yes (by omega) h2]
    have hr := hf.bytes (a := a) (n := S.mem.length - a) (by omega)
    have hl : ((S.mem.drop a).take n).length = n := by rw [List.length_take, List.length_drop]; omega
    have e1 : ((S.mem.drop a).take (S.mem.length - a)) = S.mem.drop a := List.take_of_length_le (by rw [List.length_drop]; omega)
    rw [e1] at hr
    have hbt : Byt ((S.mem.drop a).take n) := byt_take (byt_drop hf.ok.byt _) _
    have WY := Lib.hid (within_yes g m S.mem.length a n w c0 (by omega) ha.2 (by omega) (by omega))
    have hmk := make_bytes n (by omega) w
    have hnew := has_new w 5 (zeroBytes n)
    have hr1 : Row (w.alloc (.cells (zeroBytes n) 5)) (some ⟨m, a, none⟩) (S.mem.length - a) (S.mem.drop a) := row_below ((Below.refl _ w).alloc (Nat.le_refl _) _) hr
    have hzs : (zeroBytes n).size = n := by simp [zeroBytes, nums_len]
    have c0' : (w.alloc (.cells (zeroBytes n) 5)).cell? ⟨g, 0, none⟩ = some (.slice (some ⟨m, 0, none⟩) S.mem.length S.mem.length) := by
      obtain ⟨_, _, _, _, _, x, _⟩ := hf
      exact (x.str.more _).at 0
    have HW := Lib.hid (show Gives ((S.mem.drop a).take n) w (.returned (.slice (some ⟨w.heap.size, 0, none⟩) n n)) ((w.alloc (.cells (zeroBytes n) 5)).setRow w.heap.size ((zeroBytes n).toList.take 0 ++ (nums ((S.mem.drop a).take n) ++ (zeroBytes n).toList.drop (0 + n))).toArray) by
      refine ⟨_, n, by rw [hl], by rw [hl]; exact Nat.le_refl _, ?_, fun x hx => by cases hx; exact Nat.le_refl _, below_setRow ((Below.refl _ w).alloc (Nat.le_refl _) _) (Nat.le_refl _) _⟩
      have hb2 : Bk ((w.alloc (.cells (zeroBytes n) 5)).setRow w.heap.size ((zeroBytes n).toList.take 0 ++ (nums ((S.mem.drop a).take n) ++ (zeroBytes n).toList.drop (0 + n))).toArray) w.heap.size 5 (nums ((S.mem.drop a).take n)) := ⟨_, setRow_heap _ _ _ _ _ _ hnew, by simp⟩
      have := bk_row hb2 hbt 0 n (by rw [hl]; omega)
      rw [List.drop_zero, List.take_of_length_le (show ((S.mem.drop a).take n).length ≤ n by rw [hl]; omega)] at this
      rw [hl]
      exact this)
    have HM := Lib.hid (show Nat.min (S.mem.length - a) n = n from Nat.min_eq_right (by omega))
    have i0 : (0 : Int) ≤ (a : Int) := by omega
    have i1 : (a : Int) ≤ (S.mem.length : Int) := by omega
    have i2 : ¬ S.mem.length = a := by omega
    have i3 : (0 : Int) ≤ (n : Int) := by omega
    clear hr hl e1 hbt hf hfit
    go_enter Tryz.func48, Tryz.ntmps48
    go_wp2_with (first
      | (go_at_call 30; refine (there_any g _).mono ?_; rintro e w1 ⟨rfl, rfl⟩)
      | (go_at_call 71; refine WY.out.mono ?_; rintro e w1 ⟨rfl, rfl⟩)
      | (with_reducible refine wpList_cp rfl _ _ rfl n w.heap.size 0 n n rfl (some ⟨m, a, none⟩) _ _ rfl (S.mem.drop a) hr1 HM.out (zeroBytes n) 5 hnew (by omega) ?_))
    go_ret
    have F := HW.out
    simp only [List.take_zero, List.nil_append, Nat.zero_add] at F
    exact F
  · rw [read_no (by omega)]
    have WN := Lib.hid (within_no g m S.mem.length a n w c0 ha.2 (by omega) hfit)
    go_enter Tryz.func48, Tryz.ntmps48
    go_wp2_with (first
      | (go_at_call 30; refine (there_any g _).mono ?_; rintro e w1 ⟨rfl, rfl⟩)
      | (go_at_call 71; refine WN.out.mono ?_; rintro e w1 ⟨rfl, rfl⟩))
    go_ret
    exact gives_nil w
end Go.Proofs.YtklhmneapegfpaaGreatDoor
