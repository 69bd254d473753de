/-
  The rows of bytes that the program and the document make: a count, a padding, eight words; conditions: the numbers fit their kinds.
-/
import Derived.Test.YtklhmneapegfpaaGreatDoorShaOwn
import Derived.Test.YtklhmneapegfpaaGreatDoorShaRun
import Derived.Test.YtklhmneapegfpaaGreatDoorShaBlock
namespace Go.Proofs.YtklhmneapegfpaaGreatDoor.Sha
open Go.RowKit
set_option linter.unusedVariables false

/-- The call hands back n bytes, the numbers zs, in a row of its own; nothing that was there has turned. -/
def Gives (n : Nat) (zs : List Int) (w : World) (e : Ending) (w' : World) : Prop := ∃ v, e = .returned v ∧ Own w' w.heap.size v n zs ∧ Below w.heap.size w w'
def U64 (x : Int) : Prop := 0 ≤ x ∧ x < 18446744073709551616
theorem u64_hi {x : Int} (h : U64 x) : 0 ≤ x / 4294967296 ∧ x / 4294967296 ≤ 4294967295 := by unfold U64 at h; omega
theorem u64_lo (x : Int) : 0 ≤ x % 4294967296 ∧ x % 4294967296 ≤ 4294967295 := by omega

theorem row_lit4 (w : World) (x : Int) (hx : 0 ≤ x ∧ x ≤ 4294967295) : Row (w.alloc (.cells ((bytes4 x).map (Value.int .u8)).toArray 5)) (some ⟨w.heap.size, 0, none⟩) 4 (bytes4 x) := by
  obtain ⟨A, c, e, _, hr, _⟩ := (own_lit w 0 (bytes4 x) (bytes4_bd hx) 4 rfl (by unfold maxLen; omega) (Nat.zero_le _)).form
  cases e
  exact hr

theorem mask_lo {x : Int} (h : U64 x) : bits .and .u64 x 4294967295 = x % 4294967296 := by
  unfold U64 at h
  rw [u64_and _ _ (by omega) (by omega) (by omega) (by omega)]
  show (((x.toNat &&& 4294967295 : Nat)) : Int) = _
  have := Nat.and_two_pow_sub_one_eq_mod x.toNat 32
  rw [show (4294967295 : Nat) = 2 ^ 32 - 1 from rfl, this]
  omega
theorem zeros_is (n : Nat) (h : n < 2305843009213693952) : (55 - (n : Int)) % 18446744073709551616 % 64 = (zerosOf n : Int) := by unfold zerosOf; omega
theorem two_lits (w : World) (x y : Int) (hx : 0 ≤ x ∧ x ≤ 4294967295) (hy : 0 ≤ y ∧ y ≤ 4294967295) :
    Own ((w.alloc (.cells ((bytes4 x).map (Value.int .u8)).toArray 5)).alloc (.cells ((bytes4 y).map (Value.int .u8)).toArray 5)) w.heap.size (.slice (some ⟨w.heap.size, 0, none⟩) 4 4) 4 (bytes4 x) ∧
    Row ((w.alloc (.cells ((bytes4 x).map (Value.int .u8)).toArray 5)).alloc (.cells ((bytes4 y).map (Value.int .u8)).toArray 5)) (some ⟨w.heap.size + 1, 0, none⟩) 4 (bytes4 y) ∧
    Below w.heap.size w ((w.alloc (.cells ((bytes4 x).map (Value.int .u8)).toArray 5)).alloc (.cells ((bytes4 y).map (Value.int .u8)).toArray 5)) := by
  refine ⟨(own_lit w w.heap.size (bytes4 x) (bytes4_bd hx) 4 rfl (by unfold maxLen; omega) (Nat.le_refl _)).kept ((Below.refl _ _).alloc (Nat.le_refl _) _), ?_, ((Below.refl _ _).alloc (Nat.le_refl _) _).alloc (by simp) _⟩
  have := row_lit4 (w.alloc (.cells ((bytes4 x).map (Value.int .u8)).toArray 5)) y hy
  rw [World.size_alloc] at this
  exact this

set_option maxRecDepth 100000 in
theorem count_any (x : Int) (w : World) (hx : U64 x) : Calls Tryz.prog 85 #[.int .u64 x] w (Gives 8 (bytes8 x) w) := by
  have h1 := u64_hi hx
  have h2 := u64_lo x
  have h0 : 0 ≤ x := hx.1
  obtain ⟨ho, hr, hb⟩ := two_lits w _ _ h1 h2
  go_enter Tryz.func85, Tryz.ntmps85
  go_wp2_with (first
    | (go_at_call 50; (with_reducible refine (bytes_any _ _ h1).mono ?_); rintro e w' ⟨rfl, rfl⟩)
    | (go_at_call 50; (with_reducible refine (bytes_any _ _ h2).mono ?_); rintro e w' ⟨rfl, rfl⟩)
    | (at_builtin; refine wpList_app rfl _ _ rfl w.heap.size _ _ _ rfl ho _ _ _ _ rfl hr (fun h => by cases h) (by omega) hb.size ?_; intro v' w' h3 h4))
  go_ret
  exact ⟨v', rfl, h3, hb.grown h4 hb.size (fun k hk => by have hk' : some w.heap.size = some k := hk; cases hk'; exact Nat.le_refl _)⟩
set_option maxRecDepth 100000 in
theorem eight_any (x : Int) (w : World) (hx : U64 x) : Calls Tryz.prog 70 #[.int .u64 x] w (Gives 8 (bytes8 x) w) := by
  have h1 := u64_hi hx
  have h2 := u64_lo x
  have h0 : 0 ≤ x := hx.1
  have hm := mask_lo hx
  obtain ⟨ho, hr, hb⟩ := two_lits w _ _ h1 h2
  go_enter Tryz.func70, Tryz.ntmps70
  go_wp2_with (first
    | (go_at_call 53; (with_reducible refine (rbytes_any _ _ h1).mono ?_); rintro e w' ⟨rfl, rfl⟩)
    | (go_at_call 53; (with_reducible refine (rbytes_any _ _ h2).mono ?_); rintro e w' ⟨rfl, rfl⟩)
    | (at_builtin; refine wpList_app rfl _ _ rfl w.heap.size _ _ _ rfl ho _ _ _ _ rfl hr (fun h => by cases h) (by omega) hb.size ?_; intro v' w' h3 h4))
  go_ret
  exact ⟨v', rfl, h3, hb.grown h4 hb.size (fun k hk => by have hk' : some w.heap.size = some k := hk; cases hk'; exact Nat.le_refl _)⟩
def zeroBytes (c : Nat) : Array Value := (nums (List.replicate c 0)).toArray
theorem make_bytes (kl kc : IntKind) (l c : Nat) (hlc : l ≤ c) (hc : c ≤ 1000000) (w : World) : (Instr.makeSlice 34 (.int kl (l : Int)) (.int kc (c : Int))).run Tryz.prog w = .ok (.slice (some ⟨w.heap.size, 0, none⟩) l c) (w.alloc (.cells (zeroBytes c) 5)) := by
  obtain ⟨i, hi, hz0, hz1, hz2⟩ := info_parts info5
  have h := run_make (P := Tryz.prog) w 34 5 i (.int .u8 0) Tryz.underlying34 hi hz0 kl kc l c (by omega) (by omega) (by rw [hz2]; omega) (by omega)
  rw [h, hz1]
  have e : madeCells (Value.int .u8 0).cells (((c : Int)).toNat * 1) = zeroBytes c := by
    unfold zeroBytes
    apply Array.ext'
    rw [show (Value.int .u8 0).cells = #[Value.int .u8 0] from rfl, toList_madeCells_one]
    simp [nums]
  rw [e]
  simp
theorem zeros_lt (n : Nat) : zerosOf n < 64 := by unfold zerosOf; omega
theorem pad_cells (n z : Nat) (h : z = zerosOf n) : (zeroBytes (1 + z)).setIfInBounds 0 (.int .u8 128) = (nums (padI n)).toArray := by
  subst h
  rw [Nat.add_comm]
  simp [zeroBytes, nums, padI, List.replicate_succ]
set_option maxRecDepth 100000 in
theorem pad_any (n : Nat) (w : World) (hn : n < 2305843009213693952) : Calls Tryz.prog 84 #[.int .u64 (n : Int)] w (Gives (1 + zerosOf n) (padI n) w) := by
  obtain ⟨z, hz⟩ : ∃ z, z = zerosOf n := ⟨_, rfl⟩
  have hlt : z < 64 := by have := zeros_lt n; omega
  have e1 : (IntKind.u64.wrap (55 - (n : Int))).tmod 64 = (z : Int) := by
    rw [hz, IntKind.wrap_u64, Int.tmod_eq_emod_of_nonneg (by omega)]
    exact zeros_is n hn
  have e2 : IntKind.u64.wrap (1 + (z : Int)) = 1 + (z : Int) := by rw [IntKind.wrap_u64]; omega
  have hmk := make_bytes .u64 .u64 (1 + z) (1 + z) (Nat.le_refl _) (by omega)
  rw [show ((1 + z : Nat) : Int) = 1 + (z : Int) by omega] at hmk
  have hc0 : (zeroBytes (1 + z))[0]? = some (.int .u8 0) := by rw [Nat.add_comm]; simp [zeroBytes, nums, List.replicate_succ]
  have HZ := Lib.hid hz
  have HP := Lib.hid (pad_cells n z hz)
  clear hz
  have ho := own_lit w w.heap.size (padI n) (byt_pad n) (1 + z) (by rw [len_pad, HZ.out]) (by unfold maxLen; omega) (Nat.le_refl _)
  rw [← HZ.out]
  have i1 : (0 : Int) < 1 + (z : Int) := by omega
  generalize hA : (zeroBytes (1 + z)) = A at *
  clear hA
  clear hn
  go_enter Tryz.func84, Tryz.ntmps84
  go_wp2
  go_ret
  exact ⟨_, rfl, by rw [HP.out]; exact ho, (Below.refl _ _).alloc (Nat.le_refl _) _⟩
theorem own_made (w : World) (base c : Nat) (hc : c ≤ 1000000) (hb : base ≤ w.heap.size) : Own (w.alloc (.cells (zeroBytes c) 5)) base (.slice (some ⟨w.heap.size, 0, none⟩) 0 c) 0 [] := by
  refine ⟨⟨by simp [nums], .inr ⟨w.heap.size, c, zeroBytes c, rfl, hb, heap_alloc_new w _, by omega, by unfold maxLen; omega, by simp [zeroBytes, nums], by simp [nums]⟩⟩, fun n hn => by simp at hn⟩
def wUp (s : St) : Nat → List Int
  | 0 => []
  | k + 1 => wUp s k ++ bytes4 (s.get k)
theorem wUp_all (s : St) : wUp s 8 = bytes32 s := rfl
theorem get_wd {s : St} (h : s.Ok) : ∀ j, j < 8 → 0 ≤ s.get j ∧ s.get j ≤ 4294967295 := by
  obtain ⟨ha, hb, hc, hd, he, hf, hg, hh⟩ := h
  exact eight_cases ha hb hc hd he hf hg hh
theorem run_index_eight (s : St) (k : Nat) (hk : k < 8) (w : World) : (Instr.index 92 (.agg (stCells s)) (.int .i64 (k : Int))).run Tryz.prog w = .ok (.int .u32 (s.get k)) w := by
  simp [Instr.index, run_underlying Tryz.underlying92, asIntOf, hk, go_sem, st_at s k hk]
set_option maxRecDepth 100000 in
set_option maxHeartbeats 1000000 in
theorem words_any (s : St) (w : World) (hs : s.Ok) : Calls Tryz.prog 86 #[.agg (stCells s)] w (Gives 32 (bytes32 s) w) := by
  have hmk : ∀ w : World, (Instr.makeSlice 34 (.int .i64 0) (.int .i64 104)).run Tryz.prog w = .ok (.slice (some ⟨w.heap.size, 0, none⟩) 0 104) (w.alloc (.cells (zeroBytes 104) 5)) := make_bytes .i64 .i64 0 104 (by omega) (by omega)
  have c0 := fun o => (has_new w 92 (stCells s)).more o
  have hm := own_made (w.alloc (.cells (stCells s) 92)) w.heap.size 104 (by omega) (by simp)
  have hbel : Below w.heap.size w ((w.alloc (.cells (stCells s) 92)).alloc (.cells (zeroBytes 104) 5)) := ((Below.refl _ _).alloc (Nat.le_refl _) _).alloc (by simp) _
  rw [World.size_alloc] at hm
  go_enter Tryz.func86, Tryz.ntmps86
  go_wp2_with (refine wpList_load_row rfl 92 _ rfl w.heap.size rfl 92 _ (0, 0) _ (c0 _) Tryz.underlying92 rfl size45 ?_)
  go_loopw [3, 8] (fun v i wr => ∃ k : Nat, k ≤ 8 ∧ i = .int .i64 k ∧ Own wr w.heap.size v (4 * k) (wUp s k) ∧ Below w.heap.size w wr) (fun _ i _ => 8 - (intOf i).toNat)
  case atStart => exact ⟨0, by omega, rfl, hm, hbel⟩
  case round =>
    clear hm hbel c0 hmk
    obtain ⟨k, hk, rfl, ho, hb⟩ := hrel
    by_cases hlt : k < 8
    · have hidx := run_index_eight s k hlt
      have hw := get_wd hs k hlt
      have hr := row_lit4 wr _ hw
      have ho2 := ho.kept ((Below.refl _ wr).alloc (Nat.le_refl _) (.cells ((bytes4 (s.get k)).map (Value.int .u8)).toArray 5))
      have hb2 := hb.alloc hb.size (.cells ((bytes4 (s.get k)).map (Value.int .u8)).toArray 5)
      have hsz := Lib.hid (show w.heap.size ≤ (wr.alloc (.cells ((bytes4 (s.get k)).map (Value.int .u8)).toArray 5)).heap.size from hb2.size)
      go_wp2_with (first
        | (go_at_call 50; (with_reducible refine (bytes_any _ _ hw).mono ?_); rintro e w' ⟨rfl, rfl⟩)
        | (at_builtin; refine wpList_app rfl _ _ rfl w.heap.size _ _ _ rfl ho2 _ _ _ _ rfl hr (fun h => by cases h) (by omega) hsz.out ?_; intro v' w' h3 h4))
      go_roundw
      case rel => exact ⟨k + 1, by omega, by go_num, by rw [Nat.mul_succ]; exact h3, hb2.grown h4 hsz.out (fun j hj => ho2.block j hj)⟩
      case measure => simp [intOf]; omega
    · have h8 : k = 8 := by omega
      subst h8
      go_wp2
      go_ret
      exact ⟨_, rfl, ho, hb⟩
end Go.Proofs.YtklhmneapegfpaaGreatDoor.Sha
