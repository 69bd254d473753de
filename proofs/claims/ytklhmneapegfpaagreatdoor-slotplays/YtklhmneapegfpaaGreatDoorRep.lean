/-
  bytes.Repeat of one byte FF: a new row of as many; conditions: at most a million.
-/
import Derived.Test.YtklhmneapegfpaaGreatDoorSm
import Derived.Lib.MakeNoZero
import Derived.Deep.RegionLaw
import Derived.BigRegion
namespace Go.Proofs.YtklhmneapegfpaaGreatDoor
open Go.RowKit
set_option linter.unusedVariables false
set_option linter.unusedSimpArgs false

theorem mask_small (n : Nat) (hn : n ≤ 1000000) : bits .and .u64 (n : Int) 4294967295 = (n : Int) := by
  rw [u64_and _ _ (by omega) (by omega) (by omega) (by omega)]
  show ((((n : Int).toNat &&& 4294967295 : Nat)) : Int) = _
  have := Nat.and_two_pow_sub_one_eq_mod (n : Int).toNat 32
  rw [show (4294967295 : Nat) = 2 ^ 32 - 1 from rfl, this]
  omega
theorem mask_1 : bits .and .u64 1 4294967295 = 1 := by decide +kernel
theorem mask_0 : bits .and .u64 0 4294967295 = 0 := by decide +kernel
set_option maxRecDepth 100000 in
theorem mul64_any (n : Nat) (w : World) (hn : n ≤ 1000000) : Calls Tryz.prog 91 #[.int .u64 1, .int .u64 (n : Int)] w fun e w' => e = .returned (.tuple #[.int .u64 0, .int .u64 (n : Int)]) ∧ w = w' := by
  have h1 := mask_small n hn
  have h2 := mask_1
  have h3 := mask_0
  have h4 : (n : Int) / 4294967296 = 0 := by omega
  go_enter Tryz.func91, Tryz.ntmps91
  go_wp2
  go_ret2
  exact ⟨rfl, rfl⟩
set_option maxRecDepth 100000 in
theorem mul_any (n : Nat) (w : World) (hn : n ≤ 1000000) : Calls Tryz.prog 73 #[.int .u64 1, .int .u64 (n : Int)] w fun e w' => e = .returned (.tuple #[.int .u64 0, .int .u64 (n : Int)]) ∧ w = w' := by
  go_enter Tryz.func73, Tryz.ntmps73
  go_wp2_with (go_at_call 91; refine (mul64_any n _ hn).mono ?_; rintro e w1 ⟨rfl, rfl⟩)
  go_ret2
  exact ⟨rfl, rfl⟩
/-- A new row of n bytes FF. -/
def Made (n : Nat) (w : World) (e : Ending) (w' : World) : Prop := ∃ G, e = .returned (.slice (some ⟨G, 0, none⟩) n n) ∧ w.heap.size ≤ G ∧ Bk w' G 5 (nums (List.replicate n 255)) ∧ Below w.heap.size w w'
/-- The loop of Repeat: so many are there. -/
def Filled (w : World) (n : Nat) (b : Value) (wr : World) : Prop :=
  ∃ (k : Nat) (cur : Array Value), b = .int .i64 (k : Int) ∧ 1 ≤ k ∧ k ≤ n ∧ n ≤ cur.size ∧ Has wr w.heap.size 5 cur ∧ cur.toList.take k = nums (List.replicate k 255) ∧ Below w.heap.size w wr
theorem filled_row {wr : World} {G k q : Nat} {cur : Array Value} (hG : Has wr G 5 cur) (hct : cur.toList.take k = nums (List.replicate k 255)) (hq : q ≤ k) : Row wr (some ⟨G, 0, none⟩) q (List.replicate q 255) := by
  have hbk : Bk wr G 5 (nums (List.replicate k 255)) := ⟨cur, hG, by rw [nums_len, List.length_replicate]; exact hct⟩
  have := bk_row hbk (byt_same _ _ (by omega)) 0 q (by rw [List.length_replicate]; omega)
  rw [List.drop_zero, List.take_replicate, Nat.min_eq_left hq] at this
  exact this
theorem filled_more {cur : Array Value} {k d : Nat} (hct : cur.toList.take k = nums (List.replicate k 255)) (hs : k + d ≤ cur.size) (ys : List Int) (hy : ys = List.replicate d 255) :
    (cur.toList.take k ++ (nums ys ++ cur.toList.drop (k + d))).toArray.toList.take (k + d) = nums (List.replicate (k + d) 255) ∧ (cur.toList.take k ++ (nums ys ++ cur.toList.drop (k + d))).toArray.size = cur.size := by
  subst hy
  have hl : (nums (List.replicate k 255)).length = k := by rw [nums_len, List.length_replicate]
  have hl2 : (nums (List.replicate d 255)).length = d := by rw [nums_len, List.length_replicate]
  refine ⟨?_, ?_⟩
  · rw [hct, ← List.append_assoc, nums_app, List.replicate_append_replicate]
    show List.take (k + d) _ = _
    rw [List.take_left' (by rw [nums_len, List.length_replicate])]
  · rw [hct, List.size_toArray, List.length_append, List.length_append, hl, hl2, List.length_drop, Array.length_toList]
    omega
theorem filled_first (w : World) {n : Nat} (cs : Array Value) {w1 : World} (hb : Below w.heap.size w w1) (hG : Has w1 w.heap.size 5 cs) (hle : n ≤ cs.size) (h1 : 1 ≤ n) :
    Filled w n (.int .i64 1) (w1.setRow w.heap.size (nums [255] ++ cs.toList.tail).toArray) := by
  have e0 : (cs.toList.take 0 ++ (nums (([255] : List Int).take 1) ++ cs.toList.drop (0 + 1))).toArray = (nums [255] ++ cs.toList.tail).toArray := by simp
  rw [← e0]
  obtain ⟨e1, e2⟩ := filled_more (cur := cs) (k := 0) (d := 1) (by simp [nums]) (by omega) (([255] : List Int).take 1) rfl
  exact ⟨1, _, rfl, Nat.le_refl _, h1, by rw [e2]; exact hle, setRow_heap _ _ _ _ _ _ hG, e1, below_setRow hb (Nat.le_refl _) _⟩
set_option maxRecDepth 100000 in
set_option maxHeartbeats 1000000 in
theorem repeat_any (g o c n : Nat) (w : World) (hn : n ≤ 1000000) (hr : Row w (some ⟨g, o, none⟩) 1 [255]) : Calls Tryz.prog 55 #[.slice (some ⟨g, o, none⟩) 1 c, .int .i64 (n : Int)] w (Made n w) := by
  by_cases h0 : n = 0
  · subst h0
    go_enter Tryz.func55, Tryz.ntmps55
    go_wp2
    go_ret
    exact ⟨_, rfl, Nat.le_refl _, ⟨#[], has_new w 5 #[], by simp [nums]⟩, (Below.refl _ _).alloc (Nat.le_refl _) _⟩
  have h1 : 1 ≤ n := by omega
  have h2 : ¬ (n : Int) = 0 := by omega
  have h3 : ((n : Int) == 0) = false := by simpa using h2
  have h4 : (0 : Int) ≤ (n : Int) := by omega
  obtain ⟨cs, hrunM, hle, _⟩ := Lib.run_makeNoZero (P := Tryz.prog) w #[3] 34 5 Tryz.underlying34 n (by omega)
  have hcall : (callFunc 74 #[.int .i64 (n : Int)]).run Tryz.prog w = .ok (.value (.slice (some ⟨w.heap.size, 0, none⟩) n cs.size)) ((w.alloc (.cells cs 5)).drewN 2) := by
    rw [run_callFunc_extern Tryz.func74 (by kernel_rfl) (by kernel_rfl) (by kernel_rfl) (e := Extern.BytealgMakeNoZero.makeNoZero #[3] #[34]) (by kernel_rfl), hrunM]
    rfl
  clear hrunM
  have i0 : (n : Int) ≤ (cs.size : Int) := by omega
  have hG : Has ((w.alloc (.cells cs 5)).drewN 2) w.heap.size 5 cs := has_new w 5 cs
  have hbel : Below w.heap.size w ((w.alloc (.cells cs 5)).drewN 2) := (((Below.refl _ w).alloc (Nat.le_refl _) (.cells cs 5)).drew).drew
  have hr1 := row_below hbel hr
  have HM := Lib.hid (show Nat.min 1 n = 1 from Nat.min_eq_left h1)
  by_cases hbig : n ≤ 8192
  · have ib : ¬ (8192 : Int) < (n : Int) := by omega
    go_enter Tryz.func55, Tryz.ntmps55

    go_wp2_with (first
      | (go_at_call 73; refine (mul_any n _ hn).mono ?_; rintro e w1 ⟨rfl, rfl⟩)
      | (with_reducible refine wpList_cp rfl _ _ rfl 1 w.heap.size 0 n n rfl (some ⟨g, o, none⟩) 1 c rfl [255] hr1 HM.out cs 5 hG (by omega) ?_))
    have hst := filled_first w cs  hbel hG hle h1
    generalize ((w.alloc (.cells cs 5)).drewN 2).setRow w.heap.size (nums [255] ++ cs.toList.tail).toArray = w2 at *
    clear hcall hr1 hG hbel
    go_loopw [10] (fun b wr => Filled w n b wr) (fun b _ => n - (intOf b).toNat)
    case atStart => exact hst
    case round =>
      clear hst
      obtain ⟨k, cur, rfl, hk1, hkn, hsz, hG, hct, hb⟩ := hrel
      by_cases hlt : k < n
      · have i1 : (k : Int) < (n : Int) := by omega
        have i2 : (0 : Int) ≤ (k : Int) := by omega
        have i3 : ¬ n = k := by omega
        obtain ⟨q, hq⟩ : ∃ q, k = q := ⟨_, rfl⟩
        have hqk : q ≤ k := by omega
        have hq1 : 1 ≤ q := by omega
        have hqn : (q : Int) ≤ (n : Int) := by omega
        have HQ := Lib.hid hq
        clear hq
        have hrow := filled_row hG hct (q := q) hqk
        obtain ⟨d, hd⟩ : ∃ d, Nat.min q (n - k) = d := ⟨_, rfl⟩
        have hd1 : 1 ≤ d := by rw [← hd]; exact Nat.le_min.2 ⟨hq1, by omega⟩
        have hd2 : d ≤ n - k := by rw [← hd]; exact Nat.min_le_right _ _
        have hd3 : d ≤ q := by rw [← hd]; exact Nat.min_le_left _ _
        have HD := Lib.hid hd
        have HCT := Lib.hid hct
        have HB := Lib.hid hb
        obtain ⟨ys, hys⟩ : ∃ ys, List.replicate q (255 : Int) = ys := ⟨_, rfl⟩
        rw [hys] at hrow
        have HY := Lib.hid hys
        clear hys
        have HR := Lib.hid hrow
        clear hd hct hb hrow
        go_wp2_with fail
        obtain rfl := HQ.out
        go_region_law (refine step_cp rfl (.tmp 70) (.tmp 73) rfl d w.heap.size k (n - k) (n - k) (by simp [Act.eval, Act.put]) (some ⟨w.heap.size, 0, none⟩) k n (by simp [Act.eval, Act.put]) ys (by exact HR.out) HD.out cur 5 (by exact hG) (by omega) ?_)
        obtain ⟨e1, e2⟩ := filled_more HCT.out (show k + d ≤ cur.size by omega) (ys.take d) (by rw [← HY.out, List.take_replicate, Nat.min_eq_left hd3])
        have hG2 : Has (wr.drew.setRow w.heap.size (cur.toList.take k ++ (nums (ys.take d) ++ cur.toList.drop (k + d))).toArray) w.heap.size 5 _ := setRow_heap _ _ _ _ _ _ hG
        have hb2 := below_setRow HB.out.drew (Nat.le_refl _) (cur.toList.take k ++ (nums (ys.take d) ++ cur.toList.drop (k + d))).toArray
        generalize (cur.toList.take k ++ (nums (ys.take d) ++ cur.toList.drop (k + d))).toArray = cur2 at *
        generalize wr.drew.setRow w.heap.size cur2 = w3 at *
        have E1 := Lib.hid e1
        have E2 := Lib.hid e2
        clear e1 e2
        have hwr : IntKind.i64.wrap ((k : Int) + (d : Int)) = (k : Int) + (d : Int) := by rw [IntKind.wrap_i64]; omega
        go_wp2
        go_roundw
        case rel => exact ⟨k + d, cur2, by go_num, by omega, by omega, by rw [E2.out]; exact hsz, hG2, E1.out, hb2⟩
        case measure => simp [intOf]; omega
      · obtain rfl : k = n := by omega
        go_wp2
        go_ret
        exact ⟨_, rfl, Nat.le_refl _, ⟨cur, hG, by rw [nums_len, List.length_replicate]; exact hct⟩, hb⟩
  · have ib : (8192 : Int) < (n : Int) := by omega
    go_enter Tryz.func55, Tryz.ntmps55

    go_wp2_with (first
      | (go_at_call 73; refine (mul_any n _ hn).mono ?_; rintro e w1 ⟨rfl, rfl⟩)
      | (with_reducible refine wpList_cp rfl _ _ rfl 1 w.heap.size 0 n n rfl (some ⟨g, o, none⟩) 1 c rfl [255] hr1 HM.out cs 5 hG (by omega) ?_))
    have hst := filled_first w cs  hbel hG hle h1
    generalize ((w.alloc (.cells cs 5)).drewN 2).setRow w.heap.size (nums [255] ++ cs.toList.tail).toArray = w2 at *
    clear hcall hr1 hG hbel
    go_loopw [10] (fun b wr => Filled w n b wr) (fun b _ => n - (intOf b).toNat)
    case atStart => exact hst
    case round =>
      clear hst
      obtain ⟨k, cur, rfl, hk1, hkn, hsz, hG, hct, hb⟩ := hrel
      by_cases hlt : k < n
      · have i1 : (k : Int) < (n : Int) := by omega
        have i2 : (0 : Int) ≤ (k : Int) := by omega
        have i3 : ¬ n = k := by omega
        obtain ⟨q, hq⟩ : ∃ q, min k 8192 = q := ⟨_, rfl⟩
        have hqk : q ≤ k := by omega
        have hq1 : 1 ≤ q := by omega
        have hqn : (q : Int) ≤ (n : Int) := by omega
        have hif : (if (8192 : Int) < (k : Int) then (8192 : Int) else (k : Int)) = (q : Int) := by split <;> omega
        clear hq
        have hrow := filled_row hG hct (q := q) hqk
        obtain ⟨d, hd⟩ : ∃ d, Nat.min q (n - k) = d := ⟨_, rfl⟩
        have hd1 : 1 ≤ d := by rw [← hd]; exact Nat.le_min.2 ⟨hq1, by omega⟩
        have hd2 : d ≤ n - k := by rw [← hd]; exact Nat.min_le_right _ _
        have hd3 : d ≤ q := by rw [← hd]; exact Nat.min_le_left _ _
        have HD := Lib.hid hd
        have HCT := Lib.hid hct
        have HB := Lib.hid hb
        obtain ⟨ys, hys⟩ : ∃ ys, List.replicate q (255 : Int) = ys := ⟨_, rfl⟩
        rw [hys] at hrow
        have HY := Lib.hid hys
        clear hys
        have HR := Lib.hid hrow
        clear hd hct hb hrow
        go_wp2_with fail
        clear hif
        go_region_law (refine step_cp rfl (.tmp 70) (.tmp 73) rfl d w.heap.size k (n - k) (n - k) (by simp [Act.eval, Act.put]) (some ⟨w.heap.size, 0, none⟩) q n (by simp [Act.eval, Act.put]) ys (by exact HR.out) HD.out cur 5 (by exact hG) (by omega) ?_)
        obtain ⟨e1, e2⟩ := filled_more HCT.out (show k + d ≤ cur.size by omega) (ys.take d) (by rw [← HY.out, List.take_replicate, Nat.min_eq_left hd3])
        have hG2 : Has (wr.drew.setRow w.heap.size (cur.toList.take k ++ (nums (ys.take d) ++ cur.toList.drop (k + d))).toArray) w.heap.size 5 _ := setRow_heap _ _ _ _ _ _ hG
        have hb2 := below_setRow HB.out.drew (Nat.le_refl _) (cur.toList.take k ++ (nums (ys.take d) ++ cur.toList.drop (k + d))).toArray
        generalize (cur.toList.take k ++ (nums (ys.take d) ++ cur.toList.drop (k + d))).toArray = cur2 at *
        generalize wr.drew.setRow w.heap.size cur2 = w3 at *
        have E1 := Lib.hid e1
        have E2 := Lib.hid e2
        clear e1 e2
        have hwr : IntKind.i64.wrap ((k : Int) + (d : Int)) = (k : Int) + (d : Int) := by rw [IntKind.wrap_i64]; omega
        simp only [List.getElem_toArray, List.getElem_cons_succ, List.getElem_cons_zero, Act.put, List.setIfInBounds_toArray, List.set_cons_zero, List.set_cons_succ]
        go_wp2
        go_roundw
        case rel => exact ⟨k + d, cur2, by go_num, by omega, by omega, by rw [E2.out]; exact hsz, hG2, E1.out, hb2⟩
        case measure => simp [intOf]; omega
      · obtain rfl : k = n := by omega
        go_wp2
        go_ret
        exact ⟨_, rfl, Nat.le_refl _, ⟨cur, hG, by rw [nums_len, List.length_replicate]; exact hct⟩, hb⟩
end Go.Proofs.YtklhmneapegfpaaGreatDoor
