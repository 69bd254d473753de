/-
  The walk of the law HmacSame: which rows of bytes are the same; conditions: the tables lie as they were laid.
-/
import Derived.Test.YtienckdcdbcjhaaDoorLive
import Derived.Test.YtienckdcdbcjhaaDoorCards
import Derived.Deep.RegionHeld3
import Derived.Laws.BytesArg
namespace Go.Proofs.YtienckdcdbcjhaaDoor.hmacSame
open Go.ChangeShapes Go.WideShapes Go.ChangeAt Go.RowKit
set_option linter.unusedVariables false
set_option linter.unusedSimpArgs false

/-- An append of a drawn region whose run is known. -/
theorem step_run {w : World} {ops : Array Oper} {o : Oper} {a : Act} {K : Act → World → Prop} {Q : Exit → Act → World → Prop} {E : Prop} (hw : Region.wanted o (yielded ops a.tmps) = true) (s x : Operand)
    (ho : o.op = .call { callee := .builtin .append, args := #[s, x], argTypes := #[22, 22] }) (t : TypeId) (hty : o.type = t) (v u v' : Value) (hs : a.eval s = v) (hx : a.eval x = u) {w' : World}
    (hrun : (Builtin.append_ #[22, 22] t #[v, u]).run Tryd.prog w = .ok v' w') (h : K (a.put o.dst v') w') :
    if Region.wanted o (yielded ops a.tmps) = true then Oper.wp Tryd.prog o a w K Q else E := by
  rw [if_pos hw]
  unfold Oper.wp execOp
  simp only [ho, hty, resolve, invoke, builtin, Sem.run_bind, Sem.run_pure, Result.andThen_ok, List.map_toArray, List.map_cons, List.map_nil, hs, hx, hrun]
  exact h
/-- A row of bytes as a text. -/
theorem conv_row {w : World} {a : Option Addr} {n c : Nat} {zs : List Int} (h : Row w a n zs) : (convert 22 9 (.slice a n c)).run Tryd.prog w = .ok (.string (strOfNums zs)) w := by
  by_cases hn : 0 < n
  · obtain ⟨b, off, rfl, _, hc⟩ := row_open h hn
    exact run_convert_bytes_arg w 22 5 Tryd.underlying22 Tryd.underlying5 b off n c zs h.1 hc 9 Tryd.underlying9
  · obtain rfl : n = 0 := by omega
    obtain rfl : zs = [] := List.eq_nil_of_length_eq_zero h.1
    cases a with
    | none => exact run_convert_bytes_nil w 22 5 Tryd.underlying22 Tryd.underlying5 0 c 9 Tryd.underlying9
    | some ad =>
      have hl : (loadCells ad 0).run Tryd.prog w = .ok (([] : List Int).map (Value.int .u8)).toArray w := run_loadCells_list (P := Tryd.prog) w ad [] (fun j v hj => by simp at hj)
      rw [run_convert_bytes_string w 22 9 5 _ 0 c Tryd.underlying22 Tryd.underlying5 Tryd.underlying9, run_bytesToString w _ 0 c [] hl]
      rfl
theorem str_same {xs ys : List Int} (hx : Byt xs) (hy : Byt ys) : strOfNums xs = strOfNums ys ↔ xs = ys := by
  constructor
  · intro h
    have h2 : xs.map (fun n => UInt8.ofNat n.toNat) = ys.map (fun n => UInt8.ofNat n.toNat) := by rw [← strOfNums_data, ← strOfNums_data, h]
    have hl : xs.length = ys.length := by simpa using congrArg List.length h2
    refine List.ext_getElem hl fun i h3 h4 => ?_
    have h5 := congrArg (fun l => (l[i]?).map UInt8.toNat) h2
    simp only [List.getElem?_map, List.getElem?_eq_getElem h3, List.getElem?_eq_getElem h4, Option.map_some, Option.some.injEq, UInt8.toNat_ofNat'] at h5
    have b1 := hx _ (List.getElem_mem h3)
    have b2 := hy _ (List.getElem_mem h4)
    omega
  · rintro rfl
    rfl
/-- A byte of a row anew. -/
theorem set_row {w : World} {g n K : Nat} {cur : Array Value} {xs : List Int} (hG : Has w g 5 cur) (hct : cur.toList.take n = nums xs) (hxl : xs.length = n) (hK : K < n) (hb : Byt xs) (y : Int) (hy : 0 ≤ y ∧ y ≤ 255) :
    Row (w.setCell ⟨g, K, none⟩ (.int .u8 y)) (some ⟨g, 0, none⟩) n (xs.set K y) := by
  have hput := hG.put K (.int .u8 y)
  refine row_mk (by rw [List.length_set, hxl]) ?_ hput.size (fun j hj => ?_)
  · intro m hm
    rcases List.mem_or_eq_of_mem_set hm with h | rfl
    · exact hb m h
    · exact hy
  · have hcs : n ≤ cur.size := by
      have := congrArg List.length hct
      rw [List.length_take, nums_len, hxl, Array.length_toList] at this
      omega
    rw [hput.at, Nat.zero_add, Array.getElem?_setIfInBounds]
    by_cases e : K = j
    · subst e
      rw [if_pos rfl, if_pos (by omega), List.getD_eq_getElem?_getD, List.getElem?_set_self (by omega)]
      rfl
    · rw [if_neg e]
      have e1 : cur[j]? = (cur.toList.take n)[j]? := by rw [List.getElem?_take, if_pos hj]; simp
      rw [e1, hct, List.getD_eq_getElem?_getD, List.getElem?_set_ne e]
      simp only [nums, List.getElem?_map]
      rw [List.getElem?_eq_getElem (by omega)]
      rfl
theorem set_other {xs : List Int} {K : Nat} {y : Int} (hK : K < xs.length) (h : xs.getD K 0 ≠ y) : decide (xs = xs.set K y) = false := by
  rw [decide_eq_false_iff_not]
  intro e
  apply h
  have h2 : xs.getD K 0 = (xs.set K y).getD K 0 := congrArg (fun l => l.getD K 0) e
  rw [h2, List.getD_eq_getElem?_getD, List.getElem?_set_self hK]
  rfl
theorem take_other {xs : List Int} {n : Nat} (h : xs.length = n) (hn : 0 < n) : decide (xs = xs.take (n - 1)) = false := by
  rw [decide_eq_false_iff_not]
  intro e
  have := congrArg List.length e
  rw [List.length_take] at this
  omega
theorem xor_other {z x : Int} (hz : 0 ≤ z ∧ z ≤ 255) (hx : 0 ≤ x ∧ x ≤ 255) (h : ¬ x = 0) : z ≠ bits .xor .u8 z x := by
  intro e
  rw [bits_xor z x hz hx] at e
  have e2 : z.toNat = z.toNat ^^^ x.toNat := by omega
  have e3 := congrArg (z.toNat ^^^ ·) e2
  simp [← Nat.xor_assoc] at e3
  omega
set_option maxRecDepth 100000 in
set_option maxHeartbeats 1000000 in
theorem walk_out (a0 : Option Addr) (len0 cap0 : Nat) (a1 : Option Addr) (len1 cap1 : Nat) (at' x : Int) (w : World) (ht : Tabs w) (h : 300 < len0 ∨ 300 < len1 ∨ at' < 0) :
    Calls Tryd.prog 4 #[.slice a0 len0 cap0, .slice a1 len1 cap1, .int .i64 at', .int .u8 x] w fun e w' => e = .returned (.bool true) ∧ Below w.heap.size w w' := by
  by_cases h1 : 300 < len0
  · have i0 : (300 : Int) < (len0 : Int) := by omega
    go_enter Tryd.func4, Tryd.ntmps4
    go_wp2_with (go_at_call 7; refine (live_any _ ht).mono ?_; rintro e w1 ⟨rfl, H1⟩)
    go_ret
    exact ⟨rfl, H1⟩
  · have i0 : ¬ (300 : Int) < (len0 : Int) := by omega
    by_cases h2 : 300 < len1
    · have i1 : (300 : Int) < (len1 : Int) := by omega
      go_enter Tryd.func4, Tryd.ntmps4
      go_wp2_with (go_at_call 7; refine (live_any _ ht).mono ?_; rintro e w1 ⟨rfl, H1⟩)
      go_ret
      exact ⟨rfl, H1⟩
    · have i1 : ¬ (300 : Int) < (len1 : Int) := by omega
      have i2 : at' < 0 := by omega
      go_enter Tryd.func4, Tryd.ntmps4
      go_wp2_with (go_at_call 7; refine (live_any _ ht).mono ?_; rintro e w1 ⟨rfl, H1⟩)
      go_ret
      exact ⟨rfl, H1⟩
set_option maxRecDepth 100000 in
set_option maxHeartbeats 4000000 in
theorem walk_within (a0 : Option Addr) (len0 cap0 : Nat) (xs : List Int) (a1 : Option Addr) (len1 cap1 : Nat) (ys : List Int) (at' x : Int) (w : World) (hk : Row w a0 len0 xs) (hr : Row w a1 len1 ys) (hc0 : len0 ≤ cap0) (hc1 : len1 ≤ cap1) (ht : Tabs w)
    (h0 : len0 ≤ 300) (h1 : len1 ≤ 300) (h2 : 0 ≤ at' ∧ at' ≤ 9223372036854775807) (h3 : 0 ≤ x ∧ x ≤ 255) :
    Calls Tryd.prog 4 #[.slice a0 len0 cap0, .slice a1 len1 cap1, .int .i64 at', .int .u8 x] w fun e w' => e = .returned (.bool true) ∧ Below w.heap.size w w' := by
  have i0 : ¬ (300 : Int) < (len0 : Int) := by omega
  have i1 : ¬ (300 : Int) < (len1 : Int) := by omega
  have i2 : ¬ at' < 0 := by omega
  have hd1 := str_same hk.2.1 hr.2.1
  have hs1 : ((strOfNums xs).toList == (strOfNums ys).toList) = decide (xs = ys) := by
    rw [Bool.eq_iff_iff, ByteArray.toList_eq, ByteArray.toList_eq, beq_iff_eq, decide_eq_true_iff, ← hd1]
    exact ⟨fun h => bytes_inj h, fun h => by rw [h]⟩
  go_enter Tryd.func4, Tryd.ntmps4
  go_wp2_with (go_at_call 7; refine (live_any _ ht).mono ?_; rintro e w1 ⟨rfl, H1⟩)
  have k1 := row_below H1 hk
  have r1 := row_below H1 hr
  have bd : Below w1.heap.size w1 w1.drew := (Below.refl _ w1).drew
  have HA := Lib.hid (fun W (hW : Below w1.heap.size w1.drew W) => same_any a0 len0 cap0 xs a1 len1 cap1 ys W (row_below (w := w1.drew) hW (row_below bd k1)) (row_below (w := w1.drew) hW (row_below bd r1)) hc0 hc1 (by omega))
  have HB := Lib.hid (fun W (hW : Below w1.heap.size w1.drew W) => conv_row (c := cap0) (row_below (w := w1.drew) hW (row_below bd k1)))
  have HC := Lib.hid (fun W (hW : Below w1.heap.size w1.drew W) => conv_row (c := cap1) (row_below (w := w1.drew) hW (row_below bd r1)))
  have HE := Lib.hid (fun W (hW : Below w1.heap.size w1.drew W) => row_below (w := w1.drew) hW (row_below bd k1))
  have b7 : Below w1.heap.size w1.drew w1.drew := Below.refl _ _
  clear k1 r1 hd1
  generalize hdd : decide (xs = ys) = dd at *
  clear hdd
  refine wp_region_held_drew (S := fun w' => Below w1.heap.size w1.drew w') (by kernel_rfl) b7 ?_
  intro hS7
  refine wpAnyH_take (i := 0) (v := .slice a0 len0 cap0) rfl (by kernel_rfl) (by kernel_rfl) (by kernel_rfl) (fun _ _ _ h => h) (Or.inl ⟨by rfl, (fun W _ => by go_simp)⟩) hS7 ?_
  simp only [List.getElem_toArray, List.getElem_cons_succ, List.getElem_cons_zero, Act.put, List.setIfInBounds_toArray, List.set_cons_zero, List.set_cons_succ]
  refine wpAnyH_take (i := 1) (v := .slice a1 len1 cap1) rfl (by kernel_rfl) (by kernel_rfl) (by kernel_rfl) (fun _ _ _ h => h) (Or.inl ⟨by rfl, (fun W _ => by go_simp)⟩) hS7 ?_
  simp only [List.getElem_toArray, List.getElem_cons_succ, List.getElem_cons_zero, Act.put, List.setIfInBounds_toArray, List.set_cons_zero, List.set_cons_succ]
  refine wpAnyH_take (i := 3) (v := .slice a0 len0 cap0) rfl (by kernel_rfl) (by kernel_rfl) (by kernel_rfl) (fun _ _ _ h => h) (Or.inl ⟨by rfl, (fun W _ => by go_simp)⟩) hS7 ?_
  simp only [List.getElem_toArray, List.getElem_cons_succ, List.getElem_cons_zero, Act.put, List.setIfInBounds_toArray, List.set_cons_zero, List.set_cons_succ]
  refine wpAnyH_take (i := 4) (v := .string (strOfNums xs)) rfl (by kernel_rfl) (by kernel_rfl) (by kernel_rfl) (fun _ _ _ h => h) (Or.inl ⟨by rfl, (fun W hW => by have hcv := HB.out W hW; go_simp)⟩) hS7 ?_
  simp only [List.getElem_toArray, List.getElem_cons_succ, List.getElem_cons_zero, Act.put, List.setIfInBounds_toArray, List.set_cons_zero, List.set_cons_succ]
  refine wpAnyH_take (i := 5) (v := .slice a1 len1 cap1) rfl (by kernel_rfl) (by kernel_rfl) (by kernel_rfl) (fun _ _ _ h => h) (Or.inl ⟨by rfl, (fun W _ => by go_simp)⟩) hS7 ?_
  simp only [List.getElem_toArray, List.getElem_cons_succ, List.getElem_cons_zero, Act.put, List.setIfInBounds_toArray, List.set_cons_zero, List.set_cons_succ]
  refine wpAnyH_take (i := 6) (v := .string (strOfNums ys)) rfl (by kernel_rfl) (by kernel_rfl) (by kernel_rfl) (fun _ _ _ h => h) (Or.inl ⟨by rfl, (fun W hW => by have hcv := HC.out W hW; go_simp)⟩) hS7 ?_
  simp only [List.getElem_toArray, List.getElem_cons_succ, List.getElem_cons_zero, Act.put, List.setIfInBounds_toArray, List.set_cons_zero, List.set_cons_succ]
  refine wpAnyH_take (i := 7) (v := .bool dd) rfl (by kernel_rfl) (by kernel_rfl) (by kernel_rfl) (fun _ _ _ h => h) (Or.inl ⟨by rfl, (fun W _ => by go_simp)⟩) hS7 ?_
  simp only [List.getElem_toArray, List.getElem_cons_succ, List.getElem_cons_zero, Act.put, List.setIfInBounds_toArray, List.set_cons_zero, List.set_cons_succ]
  refine wpAnyH_ready (rs := [2]) (by kernel_rfl) (by simp) ?_
  refine AllReadyH.cons rfl (fun K hK => ?_) AllReadyH.nil
  go_simp
  refine (HA.out _ hS7).mono ?_
  rintro e w8 ⟨rfl, H8⟩; have hS8 : Below w1.heap.size w1.drew w8 := H8
  refine hK.out _ _ hS8 (fun _ => ?_)
  clear hK K
  refine wpAnyH_take (i := 8) (v := .bool false) rfl (by kernel_rfl) (by kernel_rfl) (by kernel_rfl) (fun _ _ _ h => h) (Or.inl ⟨by rfl, (fun W _ => by go_simp)⟩) hS8 ?_
  simp only [List.getElem_toArray, List.getElem_cons_succ, List.getElem_cons_zero, Act.put, List.setIfInBounds_toArray, List.set_cons_zero, List.set_cons_succ]
  refine wpAnyH_take (i := 9) (v := .bool false) rfl (by kernel_rfl) (by kernel_rfl) (by kernel_rfl) (fun _ _ _ h => h) (Or.inl ⟨by rfl, (fun W _ => by go_simp)⟩) hS8 ?_
  simp only [List.getElem_toArray, List.getElem_cons_succ, List.getElem_cons_zero, Act.put, List.setIfInBounds_toArray, List.set_cons_zero, List.set_cons_succ]
  refine wpAnyH_take (i := 10) (v := .slice a0 len0 cap0) rfl (by kernel_rfl) (by kernel_rfl) (by kernel_rfl) (fun _ _ _ h => h) (Or.inl ⟨by rfl, (fun W _ => by go_simp)⟩) hS8 ?_
  simp only [List.getElem_toArray, List.getElem_cons_succ, List.getElem_cons_zero, Act.put, List.setIfInBounds_toArray, List.set_cons_zero, List.set_cons_succ]
  refine wpAnyH_take (i := 11) (v := .slice a0 len0 cap0) rfl (by kernel_rfl) (by kernel_rfl) (by kernel_rfl) (fun _ _ _ h => h) (Or.inl ⟨by rfl, (fun W _ => by go_simp)⟩) hS8 ?_
  simp only [List.getElem_toArray, List.getElem_cons_succ, List.getElem_cons_zero, Act.put, List.setIfInBounds_toArray, List.set_cons_zero, List.set_cons_succ]
  have k8 := HE.out w8 hS8
  obtain ⟨v9, w9, hrun9, o9, g9⟩ := runs_app w8 w8.heap.size 22 (.slice none 0 0) 0 [] (own_nil _ _) a0 len0 cap0 xs k8 (row_none k8) (by omega) (Nat.le_refl _)
  rw [Nat.zero_add, List.nil_append] at o9
  have c9 := below_own (Below.refl _ w8) (own_nil w8 w8.heap.size) g9 (Nat.le_refl _) (Nat.le_refl _)
  have hS9 : Below w1.heap.size w1.drew w9 := hS8.trans (c9.mono hS8.size)
  obtain ⟨A9, e9, rfl, he9, hq9, _⟩ := o9.form
  refine wpAnyH_ready (rs := [12]) (by kernel_rfl) (by simp) ?_
  refine AllReadyH.cons rfl (fun K hK => ?_) AllReadyH.nil
  refine step_run (by rfl) (.const (.slice none 0 0)) (.tmp 40) rfl 22 rfl (.slice none 0 0) (.slice a0 len0 cap0) (.slice A9 len0 e9) rfl rfl hrun9 ?_
  refine hK.out _ _ hS9 (fun _ => ?_)
  clear hK K hrun9
  simp only [List.getElem_toArray, List.getElem_cons_succ, List.getElem_cons_zero, Act.put, List.setIfInBounds_toArray, List.set_cons_zero, List.set_cons_succ]
  refine wpAnyH_ready (rs := [13]) (by kernel_rfl) (by simp) ?_
  refine AllReadyH.cons rfl (fun K hK => ?_) AllReadyH.nil
  go_simp
  refine (same_any a0 len0 cap0 xs A9 len0 e9 xs _ (HE.out w9 hS9) hq9 hc0 he9 (by omega)).mono ?_
  rintro e w10 ⟨rfl, H10⟩; have hS10 : Below w1.heap.size w1.drew w10 := hS9.trans (H10.mono hS9.size)
  refine hK.out _ _ hS10 (fun _ => ?_)
  clear hK K
  refine wpAnyH_take (i := 14) (v := .bool false) rfl (by kernel_rfl) (by kernel_rfl) (by kernel_rfl) (fun _ _ _ h => h) (Or.inl ⟨by rfl, (fun W _ => by go_simp)⟩) hS10 ?_
  simp only [List.getElem_toArray, List.getElem_cons_succ, List.getElem_cons_zero, Act.put, List.setIfInBounds_toArray, List.set_cons_zero, List.set_cons_succ]
  refine wpAnyH_take (i := 15) (v := .bool false) rfl (by kernel_rfl) (by kernel_rfl) (by kernel_rfl) (fun _ _ _ h => h) (Or.inl ⟨by rfl, (fun W _ => by go_simp)⟩) hS10 ?_
  simp only [List.getElem_toArray, List.getElem_cons_succ, List.getElem_cons_zero, Act.put, List.setIfInBounds_toArray, List.set_cons_zero, List.set_cons_succ]
  refine wpAnyH_done (by kernel_rfl) ?_ _
  have b10 := H1.trans ((bd.trans hS10).mono H1.size)
  have k10 := row_below b10 hk
  clear hS7 hS8 hS9 hS10 H8 H10 c9 g9 o9 hq9 k8 HA HB HC HE b7 bd hs1
  by_cases hl0 : len0 = 0
  · have j0 : (len0 : Int) = 0 := by omega
    go_wp2
    go_ret
    exact ⟨rfl, b10⟩
  · have j0 : ¬ (len0 : Int) = 0 := by omega
    by_cases hx0 : x = 0
    · go_wp2
      go_ret
      exact ⟨rfl, b10⟩
    · have hlb : ((len0 : Int) == 0) = false := by simpa using j0
      have hxb : (x == 0) = false := by simpa using hx0
      have n10 := own_nil w10 w10.heap.size
      go_wp2_with (at_builtin; refine wpList_app rfl _ _ rfl w10.heap.size _ _ _ rfl n10 _ _ _ _ rfl k10 (row_none k10) (by omega) (Nat.le_refl _) ?_; intro v11 w11 o11 g11)
      have b11 := below_own b10 n10 g11 b10.size b10.size
      rw [Nat.zero_add, List.nil_append] at o11
      obtain ⟨g, cap, cur, rfl, hgb, hG, hcn, hcm, hcs, hct⟩ : ∃ g cap cur, v11 = .slice (some ⟨g, 0, none⟩) len0 cap ∧ w10.heap.size ≤ g ∧ Has w11 g 5 cur ∧ len0 ≤ cap ∧ cap ≤ maxLen ∧ cur.size = cap ∧ cur.toList.take len0 = nums xs := by
        rcases o11.1.2 with ⟨_, e⟩ | ⟨g, cap, cur, e1, e2, e3, e4, e5, e6, e7⟩
        · omega
        · exact ⟨g, cap, cur, e1, e2, e3, e4, e5, by simpa using e6, by simpa using e7⟩
      obtain ⟨K, hKe, hKN⟩ : ∃ K : Nat, at' % (len0 : Int) = (K : Int) ∧ K < len0 := ⟨(at' % (len0 : Int)).toNat, by have := Int.emod_nonneg at' j0; omega, by have := Int.emod_nonneg at' j0; have := Int.emod_lt_of_pos at' (show (0 : Int) < len0 by omega); omega⟩
      have hKt : at'.tmod (len0 : Int) = (K : Int) := by rw [Int.tmod_eq_emod_of_nonneg h2.1]; exact hKe
      have hxl := hk.1
      have qK : w11.cell? ⟨g, K, none⟩ = some (.int .u8 (xs.getD K 0)) := by
        rw [hG.at]
        have e1 : cur[K]? = (cur.toList.take len0)[K]? := by rw [List.getElem?_take, if_pos hKN]; simp
        rw [e1, hct]
        simp only [nums, List.getElem?_map, List.getD_eq_getElem?_getD]
        rw [List.getElem?_eq_getElem (by omega)]
        rfl
      have qF := hG.soft K
      have iK0 : (0 : Int) ≤ (K : Int) := by omega
      have iK1 : (K : Int) < (len0 : Int) := by omega
      have hzb := byt_at hk.2.1 K
      have hno := set_other (y := bits .xor .u8 (xs.getD K 0) x) (show K < xs.length by omega) (xor_other hzb h3 hx0)
      have htk := take_other hxl (show 0 < len0 by omega)
      have hyb := xor_byt hzb h3
      have hrw := set_row hG hct hxl hKN hk.2.1 _ hyb
      have hb12 := b11.setCell (p := ⟨g, K, none⟩) (show w.heap.size ≤ g from Nat.le_trans b10.size hgb) (.int .u8 (bits .xor .u8 (xs.getD K 0) x))
      generalize xs.getD K 0 = z at *
      generalize hbz : bits .xor .u8 z x = y at *
      generalize hw12 : w11.setCell ⟨g, K, none⟩ (.int .u8 y) = w12 at *
      have hk12 := row_below hb12.drew hk
      have hr12 := row_below ((Below.refl _ w12).drew) hrw
      have HR := Lib.hid hr12
      have HK2 := Lib.hid hk12
      have HNO := Lib.hid hno
      have HTK := Lib.hid htk
      have e1 : IntKind.i64.wrap ((len0 : Int) - 1) = (len0 : Int) - 1 := by rw [IntKind.wrap_i64]; omega
      have e2 : ((len0 : Int) - 1).toNat = len0 - 1 := by omega
      have e3 : (0 : Int) ≤ (len0 : Int) - 1 := by omega
      have e4 : (len0 : Int) - 1 ≤ (cap0 : Int) := by omega
      clear hct hxl hG o11 hKe k10 g11 n10 hrw hk12 hr12 hno htk
      go_region
      go_wp2_with fail
      refine (same_any a0 len0 cap0 xs (some ⟨g, 0, none⟩) len0 cap (xs.set K y) _ HK2.out HR.out hc0 hcn (by omega)).mono ?_
      rintro e w13 ⟨rfl, H13⟩
      rw [HNO.out]
      have b13 := hb12.drew.trans (H13.mono hb12.drew.size)
      have k13 := row_below b13 hk
      obtain ⟨b, off, rfl, hbw, _⟩ := row_open k13 (by omega)
      clear qK qF hKt
      go_wp2_with fail
      refine (same_any _ len0 cap0 xs _ (len0 - 1) cap0 (xs.take (len0 - 1)) _ k13 (row_upto k13 (len0 - 1) (by omega)) hc0 (by omega) (by omega)).mono ?_
      rintro e w14 ⟨rfl, H14⟩
      rw [HTK.out]
      go_wp2
      go_ret
      exact ⟨rfl, b13.trans (H14.mono b13.size)⟩
theorem walk (a0 : Option Addr) (len0 cap0 : Nat) (z0 : List Int) (a1 : Option Addr) (len1 cap1 : Nat) (z1 : List Int) (at' x : Int) (w : World) (w0 : IsRow .u8 w a0 len0 cap0 z0) (w1 : IsRow .u8 w a1 len1 cap1 z1) (w2 : (Lit.int .i64 at').wf = true) (w3 : (Lit.int .u8 x).wf = true) (ht : Tabs w) :
    Calls Tryd.prog 4 #[.slice a0 len0 cap0, .slice a1 len1 cap1, .int .i64 at', .int .u8 x] w fun e w' => e = .returned (.bool true) ∧ Below w.heap.size w w' := by
  obtain ⟨hk, hc0⟩ := row_of w0
  obtain ⟨hr, hc1⟩ := row_of w1
  by_cases h : 300 < len0 ∨ 300 < len1 ∨ at' < 0
  · exact walk_out a0 len0 cap0 a1 len1 cap1 at' x w ht h
  · exact walk_within a0 len0 cap0 _ a1 len1 cap1 _ at' x w hk hr hc0 hc1 ht (by omega) (by omega) ⟨by omega, (bounds_i64 w2).2⟩ (bounds_u8 w3)
end Go.Proofs.YtienckdcdbcjhaaDoor.hmacSame
