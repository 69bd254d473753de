/-
  The walk of the law SlotKeeps: an image that was written chunk by chunk is there; conditions: as each states.
-/
import Derived.Test.YtklhmneapegfpaaKp
namespace Go.Proofs.Ytklhmneapegfpaa.slotKeeps
open Go.RowKit
set_option linter.unusedVariables false
set_option linter.unusedSimpArgs false

/-- So many chunks of the old image are written. -/
def Olds (w : World) (T x g m k : Nat) (old b : List Int) (M : Nat) (v : Value) (wr : World) : Prop :=
  ∃ (j : Nat) (S : Fs), v = .int .i64 (j : Int) ∧ j ≤ M ∧ Rg w wr T x g m k S ⟨0, 12, 100⟩ ∧ Kp S j old b j 0
/-- So many chunks of the new one. -/
def News (w : World) (T x g m k : Nat) (old b : List Int) (M len2 K : Nat) (v : Value) (wr : World) : Prop :=
  ∃ (i : Nat) (S : Fs), v = .int .i64 (i : Int) ∧ i ≤ len2 + K ∧ Rg w wr T x g m k S ⟨0, 12, 100⟩ ∧ Kp S (M + i) old b M (i - len2)
set_option maxRecDepth 100000 in
set_option maxHeartbeats 8000000 in
theorem walk_mid (b0 o0 len0 cap0 : Nat) (zs : List Int) (b1 o1 len1 cap1 : Nat) (ys : List Int) (a2 : Option Addr) (len2 cap2 : Nat) (B : Nat → Int) (w : World)
    (hz : Row w (some ⟨b0, o0, none⟩) len0 zs) (hc0 : len0 ≤ cap0) (hy : Row w (some ⟨b1, o1, none⟩) len1 ys) (hc1 : len1 ≤ cap1) (hn : Nums w a2 len2 B) (h0 : 1 ≤ len0 ∧ len0 ≤ 1280) (h1 : 1 ≤ len1 ∧ len1 ≤ 1280) (h2 : len2 ≤ 20) :
    Calls Try.prog 3 #[.slice (some ⟨b0, o0, none⟩) len0 cap0, .slice (some ⟨b1, o1, none⟩) len1 cap1, .slice a2 len2 cap2] w fun e w' => e = .returned (.bool true) ∧ Below w.heap.size w w' := by
  have d0 : ¬ (len0 : Int) < 1 := by omega
  have d1 : ¬ (1280 : Int) < (len0 : Int) := by omega
  have d2 : ¬ (len1 : Int) < 1 := by omega
  have d3 : ¬ (1280 : Int) < (len1 : Int) := by omega
  have d4 : ¬ (20 : Int) < (len2 : Int) := by omega
  have HZ := Lib.hid hz
  have HY := Lib.hid hy
  have HN := Lib.hid hn
  obtain ⟨K, hK⟩ : ∃ K, K = (len0 - 1) / 320 + 1 := ⟨_, rfl⟩
  obtain ⟨M, hM⟩ : ∃ M, M = (len1 - 1) / 320 + 1 := ⟨_, rfl⟩
  have hK4 : K ≤ 4 := by omega
  have hM4 : M ≤ 4 := by omega
  have hKi : ((len0 : Int) - 1) / 320 + 1 = (K : Int) := by omega
  have hMi : ((len1 : Int) - 1) / 320 + 1 = (M : Int) := by omega
  have HCK := Lib.hid (fun w => rchunks_any (n := (len0 : Int)) ⟨by omega, by omega⟩ hKi w)
  have HCM := Lib.hid (fun w => rchunks_any (n := (len1 : Int)) ⟨by omega, by omega⟩ hMi w)
  have HK := Lib.hid hK
  have HM := Lib.hid hM
  have HKI := Lib.hid hKi
  have HMI := Lib.hid hMi
  have HZL := Lib.hid hz.1
  have HYL := Lib.hid hy.1
  have HZB := Lib.hid hz.2.1
  have HYB := Lib.hid hy.2.1
  clear hz hy hn hK hM hKi hMi
  go_enter Try.func3, Try.ntmps3
  go_wp2_with (first
    | (go_at_call 6; (refine (alive_any _).mono ?_); rintro e u1 ⟨rfl, H1⟩; have hn := Lib.hid (new_any 12 u1))
    | (go_at_call 8; (with_reducible refine hn.out.mono ?_); rintro e u2 ⟨g, m, k, rfl, hg, hm, hk, f2, b2⟩; rw [show sect 12 = 12 from rfl] at f2; have HW := newArea_any 0 0 12 100 u2 f2 ⟨i64_of (by omega), i64_of (by omega), i64_of (by omega)⟩; rw [rg_len, show Pt.made 12 0 12 100 = ⟨0, 12, 100⟩ from made_n (n := 12) (b := 100) (by omega) (by omega)] at HW; unfold capCells at HW)
    | (go_at_call 7; (with_reducible refine HW.mono ?_); rintro e u3 ⟨x, rfl, hx, a3, b3⟩; clear HW; have s1 := H1.size; have R3 := Lib.hid (rg_made (w0 := w) (n := 12) (b := 100) (by omega) ⟨by omega, by omega⟩ (by omega) (by omega) (by omega) f2 (belowThen H1 b2) hx a3 b3); rw [show (100 : Int).toNat = 100 from rfl] at R3; clear s1 hg hm hk f2 b2 hx a3 b3 hn H1)
    | (go_at_call 9; first | ((with_reducible refine (HCK.out _).mono ?_); rintro e u4 ⟨rfl, rfl⟩) | ((with_reducible refine (HCM.out _).mono ?_); rintro e u5 ⟨rfl, rfl⟩)))
  have HS := Lib.hid (show Olds w u2.heap.size x g m k ys zs M (.int .i64 0) u3 from ⟨0, fresh 12, rfl, by omega, R3.out, Kp.zero ys zs⟩)
  clear R3 HCK HCM
  obtain ⟨T, hT⟩ : ∃ T, T = u2.heap.size := ⟨_, rfl⟩
  rw [← hT] at HS
  clear hT
  go_loopw [11] (Olds w T x g m k ys zs M) (fun i _ => M - (intOf i).toNat)
  case atStart => exact HS.out
  case round =>
    clear HS
    obtain ⟨j, S, rfl, hj, hR, hKp⟩ := hrel
    have HR := Lib.hid hR
    have HKp := Lib.hid hKp
    have hopsS : S.ops ≤ 999000 := by have := hKp.ops; omega
    clear hR hKp
    by_cases hlt : j < M
    · have i1 : (j : Int) < (M : Int) := by omega
      have i2 : IntKind.i64.wrap ((j : Int) + 1) = (j : Int) + 1 := by rw [IntKind.wrap_i64]; omega
      obtain ⟨at', hat⟩ : ∃ at' : Nat, at' = 320 * j := ⟨_, rfl⟩
      obtain ⟨L, hL⟩ : ∃ L : Nat, L = min 320 (len1 - 320 * j) := ⟨_, rfl⟩
      have hlt1 : 320 * j < len1 := by have := HM.out; omega
      have i3 : IntKind.i64.wrap ((j : Int) * 320) = (at' : Int) := by rw [IntKind.wrap_i64]; omega
      have i4 : IntKind.i64.wrap ((at' : Int) + (L : Int)) = ((at' + L : Nat) : Int) := by rw [IntKind.wrap_i64]; omega
      have HLn := Lib.hid (fun w => rlen_any (n := (len1 : Int)) (k := (j : Int)) (L := (L : Int)) ⟨by omega, by omega⟩ HMI.out ⟨by omega, by omega⟩ (by omega) w)
      have hr := row_chunk HY.out j L hlt1 hL
      rw [← hat] at hr
      have HW := Lib.hid (rg_write HR.out (by omega) 1 (j : Int) 4 (cap1 - at') (row_below HR.out.bel hr) (HR.out.clear hr))
      have H2 := Lib.hid (HKp.out.old (by omega) (by omega) HYB.out)
      have l1 : (at' : Int) ≤ ((at' + L : Nat) : Int) := by omega
      have l2 : ((at' + L : Nat) : Int) ≤ (cap1 : Int) := by omega
      have l3 : at' + L ≤ cap1 := by omega
      have l4 : at' + L - at' = L := by omega
      have l5 : ¬ cap1 - at' = 0 := by omega
      have l6 : ¬ cap1 = at' := by omega
      have l7 : ¬ at' = cap1 := by omega
      have l8 : ¬ cap1 ≤ at' := by omega
      clear hat hL hr
      go_wp2_with (first
        | (go_at_call 12; (with_reducible refine (HLn.out _).mono ?_); rintro e u6 ⟨rfl, rfl⟩)
        | (go_at_call 11; (with_reducible refine HW.out.mono ?_); rintro e u7 ⟨rfl, R7', _⟩; clear HW; have R7 := Lib.hid R7'; rw [H2.out.1]; clear R7')
        | (go_at_call 10; (with_reducible refine (lnum_any _ _).mono ?_); rintro e u8 ⟨rfl, rfl⟩))
      go_roundw
      case rel => exact ⟨j + 1, _, by simp, by omega, R7.out, H2.out.2⟩
      case measure => simp only [intOf]; omega
    · obtain rfl : j = M := by omega
      have i1 : ¬ (j : Int) < (j : Int) := by omega
      have HS2 := Lib.hid (show News w T x g m k ys zs j len2 K (.int .i64 0) wr from ⟨0, S, rfl, by omega, HR.out, by have h9 := HKp.out; rw [Nat.zero_sub]; exact h9⟩)
      obtain ⟨M, hM⟩ : ∃ M, M = j := ⟨_, rfl⟩
      rw [← hM] at HS2 HM HMI
      have hM4 : M ≤ 4 := by omega
      clear HR HKp hopsS hlt hj
      go_wp2
      go_loopw [13] (News w T x g m k ys zs M len2 K) (fun i _ => (len2 + K) - (intOf i).toNat)
      case atStart => exact HS2.out
      case round =>
        clear HS2
        obtain ⟨i, S2, rfl, hi, hR2, hKp2⟩ := hrel
        have HR2 := Lib.hid hR2
        have HK2 := Lib.hid hKp2
        have hopsS2 : S2.ops ≤ 999000 := by have := hKp2.ops; omega
        clear hR2 hKp2
        have j0 : IntKind.i64.wrap ((len2 : Int) + (K : Int)) = ((len2 + K : Nat) : Int) := by rw [IntKind.wrap_i64]; omega
        have j2 : IntKind.i64.wrap ((i : Int) + 1) = (i : Int) + 1 := by rw [IntKind.wrap_i64]; omega
        by_cases hlt : i < len2 + K
        · have j1 : (i : Int) < ((len2 + K : Nat) : Int) := by omega
          by_cases hlo : i < len2
          · have j3 : IntKind.i64.wrap ((i : Int) - (len2 : Int)) = (i : Int) - (len2 : Int) := by rw [IntKind.wrap_i64]; omega
            have j4 : (i : Int) - (len2 : Int) < 0 := by omega
            obtain ⟨y, b2, o2, rfl, qx⟩ : ∃ x b off, a2 = some ⟨b, off, none⟩ ∧ wr.cell? ⟨b, off + i, none⟩ = some (.int .i64 x) := by
              rcases HN.out with h | ⟨b, off, h1, h2, h3⟩
              · omega
              · exact ⟨_, b, off, h1, ((HR2.out.bel).cell (p := ⟨b, off + i, none⟩) h2).trans (h3 i hlo)⟩
            obtain ⟨v, hv⟩ := Int.eq_ofNat_of_zero_le (show 0 ≤ y % 1024 by omega)
            have hand : bits .and .i64 y 1023 = (v : Int) := (and1023 y).trans hv
            have hv3 : v < 1024 := by omega
            clear hv
            have hK0 : 0 < K := by have := HK.out; omega
            obtain ⟨q, hq3, hmod⟩ : ∃ q : Nat, q < K ∧ (v : Int).tmod (K : Int) = (q : Int) := ⟨v % K, Nat.mod_lt _ hK0, by rw [Int.tmod_eq_emod_of_nonneg (by omega)]; omega⟩
            have hmod2 : (v : Int) % (K : Int) = (q : Int) := by rw [← Int.tmod_eq_emod_of_nonneg (by omega)]; exact hmod
            have HJ := Lib.hid (show i + 1 - len2 ≤ 4 ∧ ∀ t, t < i + 1 - len2 → t < i - len2 ∨ t = q from ⟨by omega, fun t ht => by omega⟩)
            have k0 : ¬ (K : Int) = 0 := by omega
            have i0 : (i : Int) < (len2 : Int) := by omega
            obtain ⟨at', hat⟩ : ∃ at' : Nat, at' = 320 * q := ⟨_, rfl⟩
            obtain ⟨L, hL⟩ : ∃ L : Nat, L = min 320 (len0 - 320 * q) := ⟨_, rfl⟩
            have hlt1 : 320 * q < len0 := by have := HK.out; omega
            have i3 : IntKind.i64.wrap ((q : Int) * 320) = (at' : Int) := by rw [IntKind.wrap_i64]; omega
            have i4 : IntKind.i64.wrap ((at' : Int) + (L : Int)) = ((at' + L : Nat) : Int) := by rw [IntKind.wrap_i64]; omega
            have HLn := Lib.hid (fun w => rlen_any (n := (len0 : Int)) (k := (q : Int)) (L := (L : Int)) ⟨by omega, by omega⟩ HKI.out ⟨by omega, by omega⟩ (by omega) w)
            have hr := row_chunk HZ.out q L hlt1 hL
            rw [← hat] at hr
            have HW := Lib.hid (rg_write HR2.out (by omega) 0 (q : Int) 4 (cap0 - at') (row_below HR2.out.bel hr) (HR2.out.clear hr))
            have H2 := Lib.hid (HK2.out.new (J' := i + 1 - len2) (by omega) hM4 (by omega) HJ.out HZB.out)
            have l1 : (at' : Int) ≤ ((at' + L : Nat) : Int) := by omega
            have l2 : ((at' + L : Nat) : Int) ≤ (cap0 : Int) := by omega
            have l3 : at' + L ≤ cap0 := by omega
            have l4 : at' + L - at' = L := by omega
            have l5 : ¬ cap0 - at' = 0 := by omega
            have l6 : ¬ cap0 = at' := by omega
            have l7 : ¬ at' = cap0 := by omega
            have l8 : ¬ cap0 ≤ at' := by omega
            clear hat hL hr
            go_wp2_with (first
              | (go_at_call 12; (with_reducible refine (HLn.out _).mono ?_); rintro e u6 ⟨rfl, rfl⟩)
              | (go_at_call 11; (with_reducible refine HW.out.mono ?_); rintro e u7 ⟨rfl, R7', _⟩; clear HW; have R7 := Lib.hid R7'; rw [H2.out.1]; clear R7')
              | (go_at_call 10; (with_reducible refine (lnum_any _ _).mono ?_); rintro e u8 ⟨rfl, rfl⟩))
            go_roundw
            case rel => exact ⟨i + 1, _, by simp, by omega, R7.out, by have h9 := H2.out.2; rw [show M + (i + 1) = M + i + 1 by omega]; exact h9⟩
            case measure => simp only [intOf]; omega
          · obtain ⟨q, hq⟩ : ∃ q, q = i - len2 := ⟨_, rfl⟩
            have j3 : IntKind.i64.wrap ((i : Int) - (len2 : Int)) = (q : Int) := by rw [IntKind.wrap_i64]; omega
            have j4 : ¬ (q : Int) < 0 := by omega
            have HJ := Lib.hid (show i + 1 - len2 ≤ 4 ∧ ∀ t, t < i + 1 - len2 → t < i - len2 ∨ t = q from ⟨by omega, fun t ht => by omega⟩)
            have hqK : q < K := by omega
            clear hq
            obtain ⟨at', hat⟩ : ∃ at' : Nat, at' = 320 * q := ⟨_, rfl⟩
            obtain ⟨L, hL⟩ : ∃ L : Nat, L = min 320 (len0 - 320 * q) := ⟨_, rfl⟩
            have hlt1 : 320 * q < len0 := by have := HK.out; omega
            have i3 : IntKind.i64.wrap ((q : Int) * 320) = (at' : Int) := by rw [IntKind.wrap_i64]; omega
            have i4 : IntKind.i64.wrap ((at' : Int) + (L : Int)) = ((at' + L : Nat) : Int) := by rw [IntKind.wrap_i64]; omega
            have HLn := Lib.hid (fun w => rlen_any (n := (len0 : Int)) (k := (q : Int)) (L := (L : Int)) ⟨by omega, by omega⟩ HKI.out ⟨by omega, by omega⟩ (by omega) w)
            have hr := row_chunk HZ.out q L hlt1 hL
            rw [← hat] at hr
            have HW := Lib.hid (rg_write HR2.out (by omega) 0 (q : Int) 4 (cap0 - at') (row_below HR2.out.bel hr) (HR2.out.clear hr))
            have H2 := Lib.hid (HK2.out.new (J' := i + 1 - len2) (by omega) hM4 (by omega) HJ.out HZB.out)
            have l1 : (at' : Int) ≤ ((at' + L : Nat) : Int) := by omega
            have l2 : ((at' + L : Nat) : Int) ≤ (cap0 : Int) := by omega
            have l3 : at' + L ≤ cap0 := by omega
            have l4 : at' + L - at' = L := by omega
            have l5 : ¬ cap0 - at' = 0 := by omega
            have l6 : ¬ cap0 = at' := by omega
            have l7 : ¬ at' = cap0 := by omega
            have l8 : ¬ cap0 ≤ at' := by omega
            clear hat hL hr
            go_wp2_with (first
              | (go_at_call 12; (with_reducible refine (HLn.out _).mono ?_); rintro e u6 ⟨rfl, rfl⟩)
              | (go_at_call 11; (with_reducible refine HW.out.mono ?_); rintro e u7 ⟨rfl, R7', _⟩; clear HW; have R7 := Lib.hid R7'; rw [H2.out.1]; clear R7')
              | (go_at_call 10; (with_reducible refine (lnum_any _ _).mono ?_); rintro e u8 ⟨rfl, rfl⟩))
            go_roundw
            case rel => exact ⟨i + 1, _, by simp, by omega, R7.out, by have h9 := H2.out.2; rw [show M + (i + 1) = M + i + 1 by omega]; exact h9⟩
            case measure => simp only [intOf]; omega
        · obtain rfl : i = len2 + K := by omega
          have j1 : ¬ ((len2 + K : Nat) : Int) < ((len2 + K : Nat) : Int) := by omega
          have E0 := Lib.hid (show imgL S2 ⟨0, 12, 100⟩ 0 4 (len0 : Int) = zs by have h9 := HK2.out; rw [Nat.add_sub_cancel_left] at h9; have h8 := h9.image0 (by rw [HZL.out]; exact h0) (by rw [HZL.out]; exact HK.out); rw [HZL.out] at h8; exact h8)
          have E1 := Lib.hid (show imgL S2 ⟨0, 12, 100⟩ 1 4 (len1 : Int) = ys by have h8 := HK2.out.image1 (by rw [HYL.out]; exact h1) (by rw [HYL.out]; exact HM.out); rw [HYL.out] at h8; exact h8)
          have HI0 := Lib.hid (fun W (hW : Below wr.heap.size wr W) => rg_image (HR2.out.kept hW) 0 4 (len0 : Int) (i64_of (by omega)))
          have HI1 := Lib.hid (fun W (hW : Below wr.heap.size wr W) => rg_image (HR2.out.kept hW) 1 4 (len1 : Int) (i64_of (by omega)))
          rw [E0.out] at HI0
          rw [E1.out] at HI1
          have HVz := Lib.hid (fun W (hW : Below wr.heap.size wr W) => conv_row (c := cap0) (row_below (HR2.out.kept hW).bel HZ.out))
          have HVy := Lib.hid (fun W (hW : Below wr.heap.size wr W) => conv_row (c := cap1) (row_below (HR2.out.kept hW).bel HY.out))
          have HS0 := Lib.hid (show Below wr.heap.size wr wr.drew from (Below.refl _ wr).drew)
          go_wp2_with fail
          refine wp_region_held_drew (S := fun W => Below wr.heap.size wr W) (by kernel_rfl) HS0.out ?_
          intro _
          refine wpAnyH_take (i := 0) (v := .pointer (some ⟨x, 0, none⟩)) rfl (by kernel_rfl) (by kernel_rfl) (by kernel_rfl) (fun _ _ _ h => h) (Or.inl ⟨by rfl, (fun W _ => by go_simp)⟩) HS0.out ?_
          simp only [List.getElem_toArray, List.getElem_cons_succ, List.getElem_cons_zero, Act.put, List.setIfInBounds_toArray, List.set_cons_zero, List.set_cons_succ]
          refine wpAnyH_take (i := 1) (v := .slice (some ⟨b0, o0, none⟩) len0 cap0) rfl (by kernel_rfl) (by kernel_rfl) (by kernel_rfl) (fun _ _ _ h => h) (Or.inl ⟨by rfl, (fun W _ => by go_simp)⟩) HS0.out ?_
          simp only [List.getElem_toArray, List.getElem_cons_succ, List.getElem_cons_zero, Act.put, List.setIfInBounds_toArray, List.set_cons_zero, List.set_cons_succ]
          refine wpAnyH_take (i := 2) (v := .int .i64 (len0 : Int)) rfl (by kernel_rfl) (by kernel_rfl) (by kernel_rfl) (fun _ _ _ h => h) (Or.inl ⟨by rfl, (fun W _ => by go_simp)⟩) HS0.out ?_
          simp only [List.getElem_toArray, List.getElem_cons_succ, List.getElem_cons_zero, Act.put, List.setIfInBounds_toArray, List.set_cons_zero, List.set_cons_succ]
          refine wpAnyH_take (i := 5) (v := .slice (some ⟨b0, o0, none⟩) len0 cap0) rfl (by kernel_rfl) (by kernel_rfl) (by kernel_rfl) (fun _ _ _ h => h) (Or.inl ⟨by rfl, (fun W _ => by go_simp)⟩) HS0.out ?_
          simp only [List.getElem_toArray, List.getElem_cons_succ, List.getElem_cons_zero, Act.put, List.setIfInBounds_toArray, List.set_cons_zero, List.set_cons_succ]
          refine wpAnyH_take (i := 6) (v := .string (strOfNums zs)) rfl (by kernel_rfl) (by kernel_rfl) (by kernel_rfl) (fun _ _ _ h => h) (Or.inl ⟨by rfl, (fun W hW => by have q9 := HVz.out W hW; go_simp)⟩) HS0.out ?_
          simp only [List.getElem_toArray, List.getElem_cons_succ, List.getElem_cons_zero, Act.put, List.setIfInBounds_toArray, List.set_cons_zero, List.set_cons_succ]
          refine wpAnyH_ready (rs := [3]) (by kernel_rfl) (by simp) ?_
          refine AllReadyH.cons rfl (fun K hK => ?_) AllReadyH.nil
          go_simp
          refine (HI0.out _ HS0.out).mono ?_
          rintro e w7 ⟨v7, rfl, o7, b7⟩
          obtain ⟨A7, c7, rfl, _, r7, _⟩ := o7.form
          have HV7 := Lib.hid (fun W (hW : Below w7.heap.size w7 W) => conv_row (c := c7) (row_below hW r7))
          have HB7 := Lib.hid (show Below wr.heap.size wr w7 from HS0.out.trans (b7.mono HS0.out.size))
          have HS7 := Lib.hid (Below.refl w7.heap.size w7)
          refine hK.out _ _ HB7.out (fun _ => ?_)
          clear hK K b7 r7 o7
          refine wpAnyH_strong (S' := fun W => Below w7.heap.size w7 W) (fun W h => HB7.out.trans (h.mono HB7.out.size)) _ _ _ _ ?_
          refine wpAnyH_take (i := 4) (v := .string (strOfNums zs)) rfl (by kernel_rfl) (by kernel_rfl) (by kernel_rfl) (fun _ _ _ h => h) (Or.inl ⟨by rfl, (fun W hW => by have q9 := HV7.out W hW; go_simp)⟩) HS7.out ?_
          simp only [List.getElem_toArray, List.getElem_cons_succ, List.getElem_cons_zero, Act.put, List.setIfInBounds_toArray, List.set_cons_zero, List.set_cons_succ]
          refine wpAnyH_take (i := 7) (v := .bool true) rfl (by kernel_rfl) (by kernel_rfl) (by kernel_rfl) (fun _ _ _ h => h) (Or.inl ⟨by rfl, (fun W _ => by go_simp)⟩) HS7.out ?_
          simp only [List.getElem_toArray, List.getElem_cons_succ, List.getElem_cons_zero, Act.put, List.setIfInBounds_toArray, List.set_cons_zero, List.set_cons_succ]
          refine wpAnyH_take (i := 8) (v := .bool true) rfl (by kernel_rfl) (by kernel_rfl) (by kernel_rfl) (fun _ _ _ h => h) (Or.inl ⟨by rfl, (fun W _ => by go_simp)⟩) HS7.out ?_
          simp only [List.getElem_toArray, List.getElem_cons_succ, List.getElem_cons_zero, Act.put, List.setIfInBounds_toArray, List.set_cons_zero, List.set_cons_succ]
          refine wpAnyH_take (i := 9) (v := .pointer (some ⟨x, 0, none⟩)) rfl (by kernel_rfl) (by kernel_rfl) (by kernel_rfl) (fun _ _ _ h => h) (Or.inl ⟨by rfl, (fun W _ => by go_simp)⟩) HS7.out ?_
          simp only [List.getElem_toArray, List.getElem_cons_succ, List.getElem_cons_zero, Act.put, List.setIfInBounds_toArray, List.set_cons_zero, List.set_cons_succ]
          refine wpAnyH_take (i := 10) (v := .slice (some ⟨b1, o1, none⟩) len1 cap1) rfl (by kernel_rfl) (by kernel_rfl) (by kernel_rfl) (fun _ _ _ h => h) (Or.inl ⟨by rfl, (fun W _ => by go_simp)⟩) HS7.out ?_
          simp only [List.getElem_toArray, List.getElem_cons_succ, List.getElem_cons_zero, Act.put, List.setIfInBounds_toArray, List.set_cons_zero, List.set_cons_succ]
          refine wpAnyH_take (i := 11) (v := .int .i64 (len1 : Int)) rfl (by kernel_rfl) (by kernel_rfl) (by kernel_rfl) (fun _ _ _ h => h) (Or.inl ⟨by rfl, (fun W _ => by go_simp)⟩) HS7.out ?_
          simp only [List.getElem_toArray, List.getElem_cons_succ, List.getElem_cons_zero, Act.put, List.setIfInBounds_toArray, List.set_cons_zero, List.set_cons_succ]
          refine wpAnyH_take (i := 14) (v := .slice (some ⟨b1, o1, none⟩) len1 cap1) rfl (by kernel_rfl) (by kernel_rfl) (by kernel_rfl) (fun _ _ _ h => h) (Or.inl ⟨by rfl, (fun W _ => by go_simp)⟩) HS7.out ?_
          simp only [List.getElem_toArray, List.getElem_cons_succ, List.getElem_cons_zero, Act.put, List.setIfInBounds_toArray, List.set_cons_zero, List.set_cons_succ]
          have HVy7 := Lib.hid (fun W (hW : Below w7.heap.size w7 W) => HVy.out W (HB7.out.trans (hW.mono HB7.out.size)))
          refine wpAnyH_take (i := 15) (v := .string (strOfNums ys)) rfl (by kernel_rfl) (by kernel_rfl) (by kernel_rfl) (fun _ _ _ h => h) (Or.inl ⟨by rfl, (fun W hW => by have q9 := HVy7.out W hW; go_simp)⟩) HS7.out ?_
          simp only [List.getElem_toArray, List.getElem_cons_succ, List.getElem_cons_zero, Act.put, List.setIfInBounds_toArray, List.set_cons_zero, List.set_cons_succ]
          refine wpAnyH_ready (rs := [12]) (by kernel_rfl) (by simp) ?_
          refine AllReadyH.cons rfl (fun K hK => ?_) AllReadyH.nil
          go_simp
          refine (HI1.out _ HB7.out).mono ?_
          rintro e w8 ⟨v8, rfl, o8, b8⟩
          obtain ⟨A8, c8, rfl, _, r8, _⟩ := o8.form
          have HV8 := Lib.hid (fun W (hW : Below w8.heap.size w8 W) => conv_row (c := c8) (row_below hW r8))
          have HB8 := Lib.hid b8
          have HS8 := Lib.hid (Below.refl w8.heap.size w8)
          refine hK.out _ _ HB8.out (fun _ => ?_)
          clear hK K b8 r8 o8
          refine wpAnyH_strong (S' := fun W => Below w8.heap.size w8 W) (fun W h => HB8.out.trans (h.mono HB8.out.size)) _ _ _ _ ?_
          have HE := Lib.hid (((HR2.out.kept HB7.out).kept HB8.out).bel)
          refine wpAnyH_take (i := 13) (v := .string (strOfNums ys)) rfl (by kernel_rfl) (by kernel_rfl) (by kernel_rfl) (fun _ _ _ h => h) (Or.inl ⟨by rfl, (fun W hW => by have q9 := HV8.out W hW; go_simp)⟩) HS8.out ?_
          simp only [List.getElem_toArray, List.getElem_cons_succ, List.getElem_cons_zero, Act.put, List.setIfInBounds_toArray, List.set_cons_zero, List.set_cons_succ]
          refine wpAnyH_take (i := 16) (v := .bool true) rfl (by kernel_rfl) (by kernel_rfl) (by kernel_rfl) (fun _ _ _ h => h) (Or.inl ⟨by rfl, (fun W _ => by go_simp)⟩) HS8.out ?_
          simp only [List.getElem_toArray, List.getElem_cons_succ, List.getElem_cons_zero, Act.put, List.setIfInBounds_toArray, List.set_cons_zero, List.set_cons_succ]
          refine wpAnyH_take (i := 17) (v := .bool true) rfl (by kernel_rfl) (by kernel_rfl) (by kernel_rfl) (fun _ _ _ h => h) (Or.inl ⟨by rfl, (fun W _ => by go_simp)⟩) HS8.out ?_
          simp only [List.getElem_toArray, List.getElem_cons_succ, List.getElem_cons_zero, Act.put, List.setIfInBounds_toArray, List.set_cons_zero, List.set_cons_succ]
          refine wpAnyH_take (i := 18) (v := .bool true) rfl (by kernel_rfl) (by kernel_rfl) (by kernel_rfl) (fun _ _ _ h => h) (Or.inl ⟨by rfl, (fun W _ => by go_simp)⟩) HS8.out ?_
          simp only [List.getElem_toArray, List.getElem_cons_succ, List.getElem_cons_zero, Act.put, List.setIfInBounds_toArray, List.set_cons_zero, List.set_cons_succ]
          refine wpAnyH_done (by kernel_rfl) ?_ _
          go_wp2
          go_ret
          exact ⟨rfl, HE.out⟩
set_option maxRecDepth 100000 in
set_option maxHeartbeats 4000000 in
theorem walk (a0 : Option Addr) (len0 cap0 : Nat) (zs : List Int) (a1 : Option Addr) (len1 cap1 : Nat) (ys : List Int) (a2 : Option Addr) (len2 cap2 : Nat) (B : Nat → Int) {W : World} (w0 : Row W a0 len0 zs) (y0 : len0 ≤ cap0) (w1 : Row W a1 len1 ys) (y1 : len1 ≤ cap1) (w2 : Nums W a2 len2 B) (w : World) (hw : w = W) :
    Calls Try.prog 3 #[.slice a0 len0 cap0, .slice a1 len1 cap1, .slice a2 len2 cap2] w fun e w' => e = .returned (.bool true) ∧ Below w.heap.size w w' := by
  subst hw
  by_cases c0 : len0 < 1
  · have i0 : (len0 : Int) < 1 := by omega
    clear w0 w1 w2 y0 y1
    go_enter Try.func3, Try.ntmps3
    go_wp2_with (go_at_call 6; refine (alive_any _).mono ?_; rintro e w1 ⟨rfl, H1⟩)
    go_ret
    exact ⟨rfl, H1⟩
  have i0 : ¬ (len0 : Int) < 1 := by omega
  by_cases c1 : 1280 < len0
  · have i1 : (1280 : Int) < (len0 : Int) := by omega
    clear w0 w1 w2 y0 y1
    go_enter Try.func3, Try.ntmps3
    go_wp2_with (go_at_call 6; refine (alive_any _).mono ?_; rintro e w1 ⟨rfl, H1⟩)
    go_ret
    exact ⟨rfl, H1⟩
  have i1 : ¬ (1280 : Int) < (len0 : Int) := by omega
  by_cases c2 : len1 < 1
  · have i2 : (len1 : Int) < 1 := by omega
    clear w0 w1 w2 y0 y1
    go_enter Try.func3, Try.ntmps3
    go_wp2_with (go_at_call 6; refine (alive_any _).mono ?_; rintro e w1 ⟨rfl, H1⟩)
    go_ret
    exact ⟨rfl, H1⟩
  have i2 : ¬ (len1 : Int) < 1 := by omega
  by_cases c3 : 1280 < len1
  · have i3 : (1280 : Int) < (len1 : Int) := by omega
    clear w0 w1 w2 y0 y1
    go_enter Try.func3, Try.ntmps3
    go_wp2_with (go_at_call 6; refine (alive_any _).mono ?_; rintro e w1 ⟨rfl, H1⟩)
    go_ret
    exact ⟨rfl, H1⟩
  have i3 : ¬ (1280 : Int) < (len1 : Int) := by omega
  by_cases c4 : 20 < len2
  · have i4 : (20 : Int) < (len2 : Int) := by omega
    clear w0 w1 w2 y0 y1
    go_enter Try.func3, Try.ntmps3
    go_wp2_with (go_at_call 6; refine (alive_any _).mono ?_; rintro e w1 ⟨rfl, H1⟩)
    go_ret
    exact ⟨rfl, H1⟩
  have i4 : ¬ (20 : Int) < (len2 : Int) := by omega
  obtain ⟨b0, o0, rfl, _⟩ := row_open w0 (by omega)
  obtain ⟨b1, o1, rfl, _⟩ := row_open w1 (by omega)
  exact walk_mid b0 o0 len0 cap0 zs b1 o1 len1 cap1 ys a2 len2 cap2 B w w0 y0 w1 y1 w2 ⟨by omega, by omega⟩ ⟨by omega, by omega⟩ (by omega)
end Go.Proofs.Ytklhmneapegfpaa.slotKeeps
