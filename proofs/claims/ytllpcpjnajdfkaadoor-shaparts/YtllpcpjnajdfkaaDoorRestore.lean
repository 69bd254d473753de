/-
  What Restore makes of what Save wrote down: that stream; conditions: the count stays small.
-/
import Derived.Test.YtllpcpjnajdfkaaDoorSave
namespace Go.Proofs.YtllpcpjnajdfkaaDoor
open Go.RowKit
set_option linter.unusedVariables false
set_option linter.unusedSimpArgs false

theorem big_app (x : Int) (tl : List Int) : bigI (bytes4 x ++ tl) = x := by
  show (((0 * 256 + x / 16777216) * 256 + x / 65536 % 256) * 256 + x / 256 % 256) * 256 + x % 256 = x
  omega
theorem or_count (n : Int) (h : 0 ≤ n ∧ n < 1099511627776) : bits .or .u64 (n / 4294967296 * 4294967296) (n % 4294967296) = n := by
  rw [u64_or _ _ (by omega) (by omega) (by omega) (by omega)]
  obtain ⟨X, rfl⟩ := Int.eq_ofNat_of_zero_le h.1
  have e1 : ((X : Int) / 4294967296 * 4294967296).toNat = X / 4294967296 * 4294967296 := by omega
  have e2 : ((X : Int) % 4294967296).toNat = X % 4294967296 := by omega
  rw [e1, e2, nat_join 32 (X / 4294967296 * 4294967296) (X % 4294967296) (by omega) (by omega)]
  omega
set_option maxRecDepth 100000 in
theorem back_any (n : Nat) (b off cap : Nat) (w : World) (hcap : 8 ≤ cap) (hn : n < 1099511627776) (hr : Row w (some ⟨b, off, none⟩) 8 (bytes8 (n : Int))) :
    Calls Tryd.prog 31 #[.slice (some ⟨b, off, none⟩) 8 cap] w fun e w' => e = .returned (.int .u64 (n : Int)) ∧ Below w.heap.size w w' := by
  have hr2 := row_from hr 4 (by omega)
  have h1 := big_any _ 8 cap _ w.drew (row_below ((Below.refl _ w).drew) hr)
  have h2 := big_any _ 4 (cap - 4) _ w.drew (row_below ((Below.refl _ w).drew) hr2)
  rw [show bigI (bytes8 (n : Int)) = (n : Int) / 4294967296 from big_app _ _] at h1
  rw [show (bytes8 (n : Int)).drop 4 = bytes4 ((n : Int) % 4294967296) from rfl, show bigI (bytes4 ((n : Int) % 4294967296)) = (n : Int) % 4294967296 from big_bytes4 _] at h2
  have i1 : 0 ≤ (n : Int) / 4294967296 := by omega
  have i2 : (n : Int) / 4294967296 ≤ 255 := by omega
  have i3 : 0 ≤ (n : Int) % 4294967296 := by omega
  have i4 : (n : Int) % 4294967296 ≤ 4294967295 := by omega
  have ic : ¬ cap = 4 := by omega
  have hor := Lib.hid (or_count (n : Int) (by omega))
  go_enter Tryd.func31, Tryd.ntmps31
  go_wp2_with fail
  refine wp_region_still_lit (by kernel_rfl) (by kernel_rfl) ?_
  simp only [World.drew_eq]
  repeat still_step
  still_call (still_of h1)
  repeat still_step
  still_call (still_of h2)
  repeat still_step
  refine wpStill_nil ?_
  go_wp2
  go_ret
  refine ⟨ret_int ?_, (Below.refl _ _).drew⟩
  have e1 : IntKind.u64.wrap ((n : Int) / 4294967296) = (n : Int) / 4294967296 := by rw [IntKind.wrap_u64]; omega
  have e2 : IntKind.u64.wrap ((n : Int) / 4294967296 * 4294967296) = (n : Int) / 4294967296 * 4294967296 := by rw [IntKind.wrap_u64]; omega
  have e3 : IntKind.u64.wrap ((n : Int) % 4294967296) = (n : Int) % 4294967296 := by rw [IntKind.wrap_u64]; omega
  rw [e1, e2, e3, hor.out]

/-- The cells of a stream of which the first k words are there. -/
def upCells (H : St) (k n : Nat) (bf : List Int) : Array Value := (Value.bool true :: ((((List.range 8).map fun j => Value.int .u32 (if j < k then H.get j else 0))) ++ (Value.int .u64 (n : Int) :: nums bf))).toArray
theorem up_none (H : St) (n : Nat) (bf : List Int) : upCells H 0 n bf = smCells zeroSt n bf := rfl
theorem up_all (H : St) (n : Nat) (bf : List Int) : upCells H 8 n bf = smCells H n bf := rfl
theorem up_next (H : St) (n : Nat) (bf : List Int) : ∀ k, k < 8 → (upCells H k n bf).setIfInBounds (1 + k) (.int .u32 (H.get k)) = upCells H (k + 1) n bf :=
  eight_cases rfl rfl rfl rfl rfl rfl rfl rfl
theorem up_at (H : St) (n : Nat) (bf : List Int) : ∀ k, k < 8 → (upCells H k n bf)[1 + k]? = some (.int .u32 0) := eight_cases rfl rfl rfl rfl rfl rfl rfl rfl
theorem save_big (H : St) (n : Nat) (rest : List Int) : ∀ k, k < 8 → bigI ((saveI H n rest).drop (k * 4)) = H.get k :=
  eight_cases (big_app _ _) (big_app _ _) (big_app _ _) (big_app _ _) (big_app _ _) (big_app _ _) (big_app _ _) (big_app _ _)
theorem save_count (H : St) (n : Nat) (rest : List Int) : ((saveI H n rest).drop 32).take 8 = bytes8 (n : Int) := rfl
theorem save_rest (H : St) (n : Nat) (rest : List Int) : (saveI H n rest).drop 40 = rest := rfl
theorem built49n (n : Nat) : Tryd.prog.built 49 [(0, .bool true), (2, .int .u64 (n : Int))] = some (smCells zeroSt n noBytes) := by kernel_rfl

def Restored (H : St) (n : Nat) (rest : List Int) (w : World) (e : Ending) (w' : World) : Prop :=
  ∃ b bf, e = .returned (.tuple #[.pointer (some ⟨b, 0, none⟩), .int .i64 0]) ∧ w.heap.size ≤ b ∧ bf.length = 64 ∧ Byt bf ∧ bf.take rest.length = rest ∧ Has w' b 49 (smCells H n bf) ∧ Below w.heap.size w w'
set_option maxRecDepth 100000 in
set_option maxHeartbeats 2000000 in
theorem restore_any (n : Nat) (H : St) (rest : List Int) (g off cap : Nat) (w : World) (hH : H.Ok) (hl : rest.length = n % 64) (hcap : 40 + n % 64 ≤ cap) (hn : n < 1099511627776)
    (hr : Row w (some ⟨g, off, none⟩) (40 + n % 64) (saveI H n rest)) :
    Calls Tryd.prog 17 #[.slice (some ⟨g, off, none⟩) (40 + n % 64) cap] w (Restored H n rest w) := by
  have hz := zero49_run
  have hr32 := row_upto (row_from hr 32 (by omega)) 8 (by omega)
  rw [save_count] at hr32
  have hrest := hr.2.1
  obtain ⟨f, hf⟩ : ∃ f, n % 64 = f := ⟨_, rfl⟩
  have hf64 : f < 64 := by omega
  have HF := Lib.hid hf
  have hfil := fun (b : Nat) (W : World) (h : Has W b 49 (smCells zeroSt n noBytes)) => filled_any b n zeroSt noBytes W h
  rw [hf] at hl hcap hr hfil
  rw [hf]
  have HL := Lib.hid hl
  clear hf hl
  have i40 : (40 : Int) ≤ (cap : Int) := by omega
  have i41 : (40 : Int) ≤ 40 + (f : Int) := by omega
  have ic : ¬ cap = 32 := by omega
  have hcnt := back_any n g (off + 32) (cap - 32) w (by omega) hn hr32
  have hd0 : decide (40 + (f : Int) < 40) = false := by simp; omega
  have hd1 : decide ((2305843009213693951 : Int) < (n : Int)) = false := by simp; omega
  go_enter Tryd.func17, Tryd.ntmps17
  go_wp2_with fail
  refine hcnt.mono ?_
  rintro e w1 ⟨rfl, H1⟩
  have hne := has_new w1 49 zero49
  have hba := H1.alloc H1.size (.cells zero49 49)
  have hlt : g < w1.heap.size := by
    obtain ⟨b', o', e, hw, _⟩ := row_open hr (by omega)
    cases e
    have := H1.size
    omega
  have hoff : Off (some ⟨g, off, none⟩) (40 + f) w1.heap.size := fun _ x hx => by cases hx; show g ≠ w1.heap.size; omega
  have hrb := row_below hba hr
  clear hcnt hr32
  go_wp2_with (first
    | (refine wpList_build_to rfl 49 _ rfl _ (built49n n) ?_)
    | (refine wpList_row rfl 49 _ _ rfl w1.heap.size (smCells zeroSt n noBytes) rfl rfl 49 _ hne (size49 no_len) (old49 no_len) (sm_all _ _ _) ?_; intro w2 hs2 hon2; have hr2 := row_only hrb hon2 hoff; have c9 : w2.cell? ⟨w1.heap.size, 9, none⟩ = some (.int .u64 (n : Int)) := (hs2.at 9).trans (sm_count _ n _); have hfl := hfil w1.heap.size w2 hs2)
    | (refine wpList_from rfl _ _ rfl _ _ _ rfl .i64 40 rfl (saveI H n rest) hr2 (by omega) hcap ?_; intro A5 hr5 hoff5; rw [Nat.add_sub_cancel_left] at hr5; rw [Nat.add_sub_cancel_left])
    | (go_at_call 22; (with_reducible refine hfl.mono ?_); rintro e w' ⟨rfl, rfl⟩))
  rw [save_rest] at hr5
  have hoA := hoff5 w1.heap.size hoff
  rw [Nat.add_sub_cancel_left] at hoA
  have hb2 := below_only hba hon2 H1.size hba.size
  clear hfl hfil c9 hrb hne hba hoff5
  go_loopw [25] (fun i wr => ∃ k : Nat, k ≤ 8 ∧ i = .int .i64 k ∧ Has wr w1.heap.size 49 (upCells H k n noBytes) ∧ Row wr (some ⟨g, off, none⟩) (40 + f) (saveI H n rest) ∧ Row wr A5 f rest ∧ Below w.heap.size w wr) (fun i _ => 8 - (intOf i).toNat)
  case atStart => exact ⟨0, by omega, rfl, by rw [up_none]; exact hs2, hr2, hr5, hb2⟩
  case round =>
    clear hs2 hr2 hr5 hb2 hon2
    obtain ⟨k, hk, rfl, hs, hrk, hr5, hbk⟩ := hrel
    by_cases hlt : k < 8
    · have qk : wr.cell? ⟨w1.heap.size, 1 + k, none⟩ = some (.int .u32 0) := (hs.at (1 + k)).trans (up_at H n _ k hlt)
      have fk := hs.soft (1 + k)
      have hrw := row_from hrk (k * 4) (by omega)
      have hbig := big_any _ _ (cap - k * 4) _ _ hrw
      rw [save_big H n rest k hlt] at hbig
      have i3 : (k : Int) < 8 := by omega
      have ikc : (k : Int) * 4 ≤ 40 + (f : Int) := by omega
      have nc : ¬ cap = k * 4 := by omega
      have hon := only_cell (j := 1 + k) (only_refl wr (some w1.heap.size)) (.int .u32 (H.get k))
      go_wp2_with (go_at_call 32; (with_reducible refine hbig.mono ?_); rintro e w' ⟨rfl, rfl⟩)
      go_roundw
      case rel => exact ⟨k + 1, by omega, by go_num, by rw [← up_next H n _ k hlt]; exact hs.put (1 + k) _, row_only hrk hon hoff, row_only hr5 hon hoA, hbk.setCell H1.size _⟩
      case measure => simp [intOf]; omega
    · have h8 : k = 8 := by omega
      rw [h8, up_all] at hs
      clear h8
      have HM := Lib.hid (show Nat.min f 64 = f from Nat.min_eq_left (by omega))
      go_wp2_with (with_reducible refine wpList_cp rfl _ _ rfl f w1.heap.size 10 64 64 rfl A5 f (cap - 40) rfl rest hr5 HM.out (smCells H n noBytes) 49 hs ?_ ?_)
      · rw [sm_size, no_len]; omega
      · rw [sm_first H n noBytes rest f hr5.1 (by rw [no_len]; omega)]
        go_wp2
        go_ret2
        refine ⟨_, rest ++ noBytes.drop f, rfl, H1.size, by rw [List.length_append, List.length_drop, hr5.1, no_len]; omega, byt_app hr5.2.1 (byt_drop no_byt _), List.take_left, setRow_heap _ _ _ _ _ _ hs, below_setRow hbk H1.size _⟩
end Go.Proofs.YtllpcpjnajdfkaaDoor
