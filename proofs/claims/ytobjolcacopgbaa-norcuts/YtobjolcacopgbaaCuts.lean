/-
  What is proved: for all rows of bytes the law NorCuts answers true: of what is cut each bit is the old one or the new one, just as the mask says, and nothing is done till there is power again (1 to 320 bytes, masks of up to 40; others the law lets by). Conditions: none.
-/
import Derived.Test.YtobjolcacopgbaaCutsf
import Derived.Test.YtobjolcacopgbaaRows
import Derived.WalkKit
import Derived.ProofKit
import Derived.OpenShut
import Derived.ShutString
import Derived.ChangeOld
import Derived.Below
namespace Go.Proofs.Ytobjolcacopgbaa.norCuts
open Go.ChangeShapes Go.WideShapes Go.ChangeAt Go.RowKit
open Go.ChangeMaps (open_string shut_string)
set_option linter.unusedVariables false

theorem own : ownKnob Try.prog.godebug = none := by kernel_rfl
theorem laidOut : laidOutB Try.prog = true := by kernel_rfl

/-- WHAT THE WALK IS TOLD OF A SLICE OF INTEGERS THAT CAME IN: it is nil; or it leads to a row of 'cap' cells, the numbers 'zs' (the first 'len' are its elements, the rest its spare room), each fitting its kind. -/
def IsRow (k : IntKind) (w : World) (a : Option Addr) (len cap : Nat) (zs : List Int) : Prop :=
  (a = none ∧ len = 0 ∧ cap = 0 ∧ zs = []) ∨
  ∃ x, a = some x ∧ len ≤ cap ∧ cap ≤ maxLen ∧ zs.length = cap ∧ (∀ i, i < zs.length → w.cell? (x.add i) = some (.int k (zs.getD i 0))) ∧ ∀ n ∈ zs, (Lit.int k n).wf = true

theorem take_more (os : List Int) (j : Nat) (h : j < os.length) : os.take j ++ [os.getD j 0] = os.take (j + 1) := by
  rw [List.take_add_one, List.getD_eq_getElem?_getD, List.getElem?_eq_getElem h]
  rfl
/-- So many bytes of the old row are taken. -/
def Taking (w : World) (os : List Int) (W2 : World) (n : Nat) (v i : Value) (wr : World) : Prop := ∃ j : Nat, i = .int .i64 (j : Int) ∧ j ≤ n ∧ Own wr W2.heap.size v j (os.take j) ∧ Below w.heap.size w wr ∧ Below W2.heap.size W2 wr
/-- The next bytes, so many of them reckoned. -/
def nxt (bs os : List Int) (n j : Nat) : List Int := (List.range n).map fun i => if i < j then bits .and .u8 (bs.getD i 0) (os.getD i 0) else 0
theorem nxt_len (bs os : List Int) (n j : Nat) : (nxt bs os n j).length = n := by simp [nxt]
theorem nxt_get (bs os : List Int) {n j i : Nat} (h : i < n) : (nxt bs os n j).getD i 0 = if i < j then bits .and .u8 (bs.getD i 0) (os.getD i 0) else 0 := by
  simp [nxt, List.getD_eq_getElem?_getD, List.getElem?_map, List.getElem?_range h]
theorem nxt_at (bs os : List Int) {n j i : Nat} (h : i < n) (h2 : i < j) : (nxt bs os n j).getD i 0 = bits .and .u8 (bs.getD i 0) (os.getD i 0) := by rw [nxt_get _ _ h, if_pos h2]
theorem nxt_none (bs os : List Int) (n : Nat) : nxt bs os n 0 = List.replicate n 0 := by
  refine list_eq (by rw [nxt_len, List.length_replicate]) fun j hj => ?_
  rw [nxt_len] at hj
  rw [nxt_get _ _ hj, if_neg (by omega), getD_rep _ _ _ hj]
theorem nxt_more (bs os : List Int) {n j : Nat} (h : j < n) : (nxt bs os n j).set j (bits .and .u8 (bs.getD j 0) (os.getD j 0)) = nxt bs os n (j + 1) := by
  refine list_eq (by rw [List.length_set, nxt_len, nxt_len]) fun i hi => ?_
  rw [List.length_set] at hi
  rw [getD_set _ _ _ _ hi]
  rw [nxt_len] at hi
  rw [nxt_get _ _ hi, nxt_get _ _ hi]
  by_cases e : j = i
  · subst e
    rw [if_pos rfl, if_pos (by omega)]
  · rw [if_neg e]
    by_cases h2 : i < j
    · rw [if_pos h2, if_pos (by omega)]
    · rw [if_neg h2, if_neg (by omega)]
theorem nxt_byt {bs os : List Int} (h1 : Byt bs) (h2 : Byt os) (n j : Nat) : Byt (nxt bs os n j) := by
  intro x hx
  obtain ⟨i, _, rfl⟩ := List.mem_map.1 hx
  split
  · exact and_byt (byt_at h1 _) (byt_at h2 _)
  · omega
def Nexting (w : World) (nx : Nat → List Int) (W4 : World) (n : Nat) (v : Value) (wr : World) : Prop := ∃ i : Nat, v = .int .i64 (i : Int) ∧ i ≤ n ∧ Bk wr W4.heap.size 5 (nums (nx i)) ∧ Below w.heap.size w wr ∧ Below W4.heap.size W4 wr
def Checking (W : World) (n : Nat) (v : Value) (wr : World) : Prop := ∃ q : Nat, v = .int .i64 (q : Int) ∧ q ≤ n ∧ Below W.heap.size W wr
theorem prog_len (S : Fs) (a : Int) (b : List Int) : (prog S a b).2.mem.length = S.mem.length := by
  unfold prog
  split
  · rfl
  · split
    · rfl
    · split
      · rfl
      · unfold work
        split <;> exact put_len ..
set_option maxRecDepth 100000 in
set_option maxHeartbeats 4000000 in
theorem walk (a0 : Option Addr) (len0 cap0 : Nat) (z0 : List Int) (a1 : Option Addr) (len1 cap1 : Nat) (z1 : List Int) (a2 : Option Addr) (len2 cap2 : Nat) (z2 : List Int) (a3 : Bool) (w : World) (w0 : IsRow .u8 w a0 len0 cap0 z0) (w1 : IsRow .u8 w a1 len1 cap1 z1) (w2 : IsRow .u8 w a2 len2 cap2 z2) :
    Calls Try.prog 5 #[.slice a0 len0 cap0, .slice a1 len1 cap1, .slice a2 len2 cap2, .bool a3] w fun e w' => e = .returned (.bool true) ∧ Below w.heap.size w w' := by
  have ho := row_of w0
  have hb := row_of w1
  have hm := row_of w2
  have hmz : len2 ≤ cap2 := by
    rcases w2 with ⟨_, h1, h2, _⟩ | ⟨_, _, h, _⟩
    · omega
    · exact h
  clear w0 w1 w2
  generalize z0.take len0 = os at *
  generalize z1.take len1 = bs at *
  generalize z2.take len2 = ms at *
  by_cases g0 : len1 < 1
  · have dg0 : decide (len1 < 1) = true := by simpa using g0
    go_enter Try.func5, Try.ntmps5
    go_wp2_with (go_at_call 8; refine (alive_any _).mono ?_; rintro e w1 ⟨rfl, H1⟩)
    go_ret
    exact ⟨rfl, H1⟩
  have dg0 : decide (len1 < 1) = false := by simpa using g0
  by_cases g1 : 320 < len1
  · have dg1 : decide (320 < len1) = true := by simpa using g1
    go_enter Try.func5, Try.ntmps5
    go_wp2_with (go_at_call 8; refine (alive_any _).mono ?_; rintro e w1 ⟨rfl, H1⟩)
    go_ret
    exact ⟨rfl, H1⟩
  have dg1 : decide (320 < len1) = false := by simpa using g1
  by_cases g2 : len0 < len1
  · have dg2 : decide (len0 < len1) = true := by simpa using g2
    go_enter Try.func5, Try.ntmps5
    go_wp2_with (go_at_call 8; refine (alive_any _).mono ?_; rintro e w1 ⟨rfl, H1⟩)
    go_ret
    exact ⟨rfl, H1⟩
  have dg2 : decide (len0 < len1) = false := by simpa using g2
  by_cases g3 : 320 < len0
  · have dg3 : decide (320 < len0) = true := by simpa using g3
    go_enter Try.func5, Try.ntmps5
    go_wp2_with (go_at_call 8; refine (alive_any _).mono ?_; rintro e w1 ⟨rfl, H1⟩)
    go_ret
    exact ⟨rfl, H1⟩
  have dg3 : decide (320 < len0) = false := by simpa using g3
  by_cases g4 : 40 < len2
  · have dg4 : decide (40 < len2) = true := by simpa using g4
    go_enter Try.func5, Try.ntmps5
    go_wp2_with (go_at_call 8; refine (alive_any _).mono ?_; rintro e w1 ⟨rfl, H1⟩)
    go_ret
    exact ⟨rfl, H1⟩
  have dg4 : decide (40 < len2) = false := by simpa using g4
  cases a3 with
  | false =>
    have HN := Lib.hid (show sect 1 = 1 from rfl)
    have HZ := Lib.hid (show Byt os ∧ Byt bs ∧ Byt ms ∧ os.length = len0 ∧ bs.length = len1 ∧ ms.length = len2 from ⟨ho.2.1, hb.2.1, hm.2.1, ho.1, hb.1, hm.1⟩)
    have hln : (os.take len1).length = len1 := by rw [List.length_take, ho.1]; omega
    have HNOW := Lib.hid (show Byt (os.take len1) ∧ (os.take len1).length = len1 from ⟨byt_take ho.2.1 _, hln⟩)
    have HROWS := Lib.hid (show ∀ wr, Below w.heap.size w wr → Row wr a0 len0 os ∧ Row wr a1 len1 bs ∧ Row wr a2 len2 ms from fun wr b => ⟨row_below b ho, row_below b hb, row_below b hm⟩)
    have n0 : (0 : Int) ≤ (len1 : Int) := by omega
    clear ho hb hm hln
    go_enter Try.func5, Try.ntmps5
    go_wp2_with (first
      | (go_at_call 8; refine (alive_any _).mono ?_; rintro e W1 ⟨rfl, H1⟩)
      | (go_at_call 9; refine (new_any _ _).mono ?_; rintro e W2 ⟨g, m, k, rfl, hg, hm, hk, f2, b2⟩; rw [HN.out] at f2))
    have HF2 := Lib.hid f2
    have H2 := Lib.hid (show Below w.heap.size w W2 from H1.trans (b2.mono H1.size))
    have hg' : w.heap.size ≤ g := Nat.le_trans H1.size hg
    have hm' : w.heap.size ≤ m := Nat.le_trans H1.size hm
    have hk' : w.heap.size ≤ k := Nat.le_trans H1.size hk
    have HTO := Lib.hid (show ∀ wa wb, Below w.heap.size w wa → Only (In3 g m k) wa wb → Below w.heap.size w wb from fun wa wb h o => below_to h hg' hm' hk' o)
    have HAW := Lib.hid (show ∀ A : Option Addr, (∀ x, A = some x → W2.heap.size ≤ x.block) → Away g m k A from fun A h x hx e => by have := h x hx; have := f2.in _ e; omega)
    clear f2 b2 H1 hg hm hk hg' hm' hk'
    go_loopw [11, 12] (fun v i wr => Taking w os W2 len1 v i wr) (fun _ i _ => len1 - (intOf i).toNat)
    case atStart => exact ⟨0, rfl, by omega, own_nil W2 W2.heap.size, H2.out, Below.refl _ _⟩
    case round =>
      obtain ⟨j, rfl, hj, own, hbw, hb2⟩ := hrel
      have j0 : (0 : Int) ≤ (j : Int) := by omega
      by_cases hlt : j < len1
      · have j1 : (j : Int) < (len1 : Int) := by omega
        have j2 : (j : Int) < (len0 : Int) := by omega
        obtain ⟨bo, oo, ha0, _, hcell⟩ := row_open (HROWS.out wr hbw).1 (by omega)
        subst ha0
        have qx := hcell j (by omega)
        have hxb := byt_at HZ.out.1 j
        have HT := Lib.hid (take_more os j (by rw [HZ.out.2.2.2.1]; omega))
        generalize os.getD j 0 = x at *
        have ba : Below wr.heap.size wr (wr.alloc (.cells #[.int .u8 x] 5)) := (Below.refl _ wr).alloc (Nat.le_refl _) _
        have o2 := own.kept ba
        have hm2 : Row (wr.alloc (.cells #[.int .u8 x] 5)) (some ⟨wr.heap.size, 0, none⟩) 1 [x] := row_text wr [x] (byt_one hxb) 1 rfl (0, 0)
        have HB2 := Lib.hid (show Below W2.heap.size W2 (wr.alloc (.cells #[.int .u8 x] 5)) from hb2.trans (ba.mono hb2.size))
        have hs2 : W2.heap.size ≤ (wr.alloc (.cells #[.int .u8 x] 5)).heap.size := HB2.out.size
        have HBW := Lib.hid hbw
        clear hcell hb2 hbw ba own
        go_wp2_with (at_builtin; (with_reducible refine wpList_app rfl _ _ rfl W2.heap.size u11 j (os.take j) rfl o2 _ _ _ [x] rfl hm2 (row_none hm2) (by omega) hs2 ?_); intro v3 w3 o3 g3; have b3 := below_own HB2.out o2 g3 (Nat.le_refl _) hs2)
        rw [HT.out] at o3
        go_roundw
        case rel => exact ⟨j + 1, by go_num, by omega, o3, H2.out.trans (b3.mono H2.out.size), b3⟩
        case measure => simp [intOf]; omega
      · obtain rfl : j = len1 := by omega
        obtain ⟨W3, rfl⟩ : ∃ x, x = wr := ⟨_, rfl⟩
        obtain ⟨A3, c3, rfl, hc3, r3, hA3⟩ := own.form
        have F3 := HF2.out.kept hb2
        have aw3 := HAW.out A3 (fun x hx => (hA3 x hx).1)
        have HC := Lib.hid (program_any 0 A3 j c3 (os.take j) W3 (i64_small (by omega)) F3 r3 aw3 (by simp [fresh]))
        have HR3 := Lib.hid r3
        have HA3 := Lib.hid aw3
        have HBW := Lib.hid hbw
        have hs3 := hb2.size
        clear own hb2 hbw F3 r3 aw3 hA3
        go_wp2_with (go_at_call 13; (with_reducible refine HC.out.mono ?_); rintro e W4 ⟨rfl, f4, o4⟩; have hmk := make_bytes j (by omega) W4)
        have HF4 := Lib.hid f4
        have HB4 := Lib.hid (HTO.out W3 W4 HBW.out o4)
        have HR4 := Lib.hid (row_keep HR3.out o4 HA3.out)
        have hs4 := Nat.le_trans hs3 o4.size
        clear f4 o4 HC hmk HR3 HBW
        go_loopw [14] (fun i wr => Nexting w (fun j' => nxt bs os j j') W4 j i wr) (fun i _ => j - (intOf i).toNat)
        case atStart => exact ⟨0, rfl, by omega, by show Bk _ _ 5 (nums (nxt bs os j 0)); rw [nxt_none]; exact bk_all _ _ _ (has_new W4 5 _), HB4.out.alloc HB4.out.size _, (Below.refl _ W4).alloc (Nat.le_refl _) _⟩
        case round =>
          obtain ⟨i, rfl, hi, hbk, hbw, hb4⟩ := hrel
          have i0 : (0 : Int) ≤ (i : Int) := by omega
          by_cases hlt2 : i < j
          · have i1 : (i : Int) < (j : Int) := by omega
            have i2 : (i : Int) < (len0 : Int) := by omega
            obtain ⟨ro, rb, _⟩ := HROWS.out wr hbw
            obtain ⟨b0, o0, ha0, _, hcell0⟩ := row_open ro (by omega)
            obtain ⟨b1, o1, ha1, _, hcell1⟩ := row_open rb (by omega)
            subst ha0 ha1
            have qo := hcell0 i (by omega)
            have qb := hcell1 i (by omega)
            have qg := bk_byte hbk i (by rw [nxt_len]; exact hlt2)
            have qf := hbk.soft i
            have hnx := nxt_more bs os (show i < j from hlt2)
            have hup := bk_put_byte hbk i (by rw [nxt_len]; exact hlt2) (bits .and .u8 (bs.getD i 0) (os.getD i 0))
            rw [hnx] at hup
            have hb5 := (hb4.setCell (p := ⟨W4.heap.size, i, none⟩) (Nat.le_refl _) (.int .u8 (bits .and .u8 (bs.getD i 0) (os.getD i 0)))).drew
            have hw5 := (hbw.setCell (p := ⟨W4.heap.size, i, none⟩) HB4.out.size (.int .u8 (bits .and .u8 (bs.getD i 0) (os.getD i 0)))).drew
            generalize bs.getD i 0 = x at *
            generalize os.getD i 0 = y at *
            generalize (nxt bs os j i).getD i 0 = u at *
            clear hcell0 hcell1 hbk hb4 hbw ro rb hnx
            go_wp2_with fail
            go_region
            go_wp2
            go_roundw
            case rel => exact ⟨i + 1, by go_num, by omega, hup, hw5, hb5⟩
            case measure => simp [intOf]; omega
          · obtain rfl : i = j := by omega
            obtain ⟨W5, rfl⟩ : ∃ x, x = wr := ⟨_, rfl⟩
            obtain ⟨nx, hnx⟩ : ∃ nx, nxt bs os i i = nx := ⟨_, rfl⟩
            have hbk : Bk W5 W4.heap.size 5 (nums (nxt bs os i i)) := hbk
            rw [hnx] at hbk
            have HNX := Lib.hid (show Byt nx ∧ nx.length = i by rw [← hnx]; exact ⟨nxt_byt HZ.out.2.1 HZ.out.1 _ _, nxt_len ..⟩)
            have HK := Lib.hid (cutA_is (ms := ms) HNOW.out.1 HNOW.out.2 (by omega))
            have HEN := cut_prog (ms := ms) HNOW.out.1 HNOW.out.2 (by omega) HNX.out.1 HNX.out.2 (fun q hq => by rw [← hnx, nxt_at _ _ hq hq, getD_take _ _ _ hq]; exact clear_and (byt_at HZ.out.2.1 q) (byt_at HZ.out.1 q))
            have HE1 := Lib.hid HEN.1
            have HEND := Lib.hid HEN.2
            have HOFF := Lib.hid (cut_after HEN.2)
            have HRD := Lib.hid (cut_read HEN.2 (by omega) (by omega))
            clear HEN hnx
            have hr5 : Row W5 (some ⟨W4.heap.size, 0, none⟩) i nx := by
              have := bk_row hbk HNX.out.1 0 i (by rw [HNX.out.2]; omega)
              rw [List.drop_zero, List.take_of_length_le (by rw [HNX.out.2]; exact Nat.le_refl _)] at this
              exact this
            have aw5 : Away g m k (some ⟨W4.heap.size, 0, none⟩) := HF4.out.away (Nat.le_refl _)
            have HC := Lib.hid (cut_any 0 a2 len2 cap2 ms W5 (i64_small (by omega)) (HF4.out.kept hb4) (HROWS.out W5 hbw).2.2 hmz (by omega) (Nat.le_trans hs4 hb4.size))
            have HR5 := Lib.hid hr5
            have HN5 := Lib.hid (row_below hb4 HR4.out)
            have HA5 := Lib.hid aw5
            have HBW := Lib.hid hbw
            have hs5 := Nat.le_trans hs4 hb4.size
            clear hbk hb4 hbw hr5 aw5 HR4
            go_wp2_with (go_at_call 16; (with_reducible refine HC.out.mono ?_); rintro e W6 ⟨rfl, f6, o6⟩)
            have HMT := Lib.hid (show ms.take (prog (fresh 1) 0 (os.take i)).2.mem.length = ms from List.take_of_length_le (by rw [HZ.out.2.2.2.2.2, show (prog (fresh 1) 0 (os.take i)).2.mem.length = 320 from HK.out.2.2.2.2.2.1]; omega))
            rw [show (max (0 : Int) 0).toNat = 0 from rfl, HMT.out] at f6
            have HF6 := Lib.hid (show Fl W6 W2.heap.size g m k (cutA (os.take i) ms) from f6)
            have HB6 := Lib.hid (HTO.out W5 W6 HBW.out o6)
            have HR6 := Lib.hid (row_keep HR5.out o6 HA5.out)
            have HN6 := Lib.hid (row_keep HN5.out o6 HA3.out)
            have hs6 := Nat.le_trans hs5 o6.size
            clear f6 o6 HC HR5 HN5 HBW
            have HC := Lib.hid (program_any 0 (some ⟨W4.heap.size, 0, none⟩) i i nx W6 (i64_small (by omega)) HF6.out HR6.out HA5.out (by rw [HK.out.2.2.2.1]; omega))
            go_wp2_with (go_at_call 13; (with_reducible refine HC.out.mono ?_); rintro e W7 ⟨rfl, f7, o7⟩)
            have HB7 := Lib.hid (HTO.out W6 W7 HB6.out o7)
            have HR7 := Lib.hid (row_keep HR6.out o7 HA5.out)
            have HN7 := Lib.hid (row_keep HN6.out o7 HA3.out)
            have hs7 := Nat.le_trans hs6 o7.size
            rw [HE1.out]
            have HF8 := Lib.hid f7
            obtain ⟨W8, rfl⟩ : ∃ x, x = W7 := ⟨_, rfl⟩
            have HB8 := HB7
            have HR8 := HR7
            have HN8 := HN7
            clear f7 o7 HC HR7 HN7 HB7 HR6 HN6
            -- all is cut: the flash is off
            have HC := Lib.hid (erase_any 0 W8 HF8.out (by have := HEND.out.ops; omega) HEND.out.few)
            go_wp2_with (go_at_call 11; (with_reducible refine HC.out.mono ?_); rintro e W9 ⟨rfl, f9, o9⟩)
            rw [HOFF.out.1] at f9 ⊢
            have HF9 := Lib.hid (show Fl W9 W2.heap.size g m k ((prog (cutA (os.take i) ms) 0 nx).2) from f9)
            have HB9 := Lib.hid (HTO.out W8 W9 HB8.out o9)
            have HR9 := Lib.hid (row_keep HR8.out o9 HA5.out)
            have HN9 := Lib.hid (row_keep HN8.out o9 HA3.out)
            clear f9 o9 HC
            have HC := Lib.hid (program_any 0 none 0 0 [] W9 (i64_small (by omega)) HF9.out (row_nil _) (fun x hx => by cases hx) (by have := HEND.out.ops; omega))
            go_wp2_with (go_at_call 13; (with_reducible refine HC.out.mono ?_); rintro e W10 ⟨rfl, f10, o10⟩)
            rw [HOFF.out.2.1] at f10 ⊢
            have HF10 := Lib.hid (show Fl W10 W2.heap.size g m k ((prog (cutA (os.take i) ms) 0 nx).2) from f10)
            have HB10 := Lib.hid (HTO.out W9 W10 HB9.out o10)
            have HR10 := Lib.hid (row_keep HR9.out o10 HA5.out)
            have HN10 := Lib.hid (row_keep HN9.out o10 HA3.out)
            clear f10 o10 HC HF9 HF8
            have HC := Lib.hid (read_any 0 i W10 (i64_small (by omega)) (i64_small (by omega)) HF10.out)
            go_wp2_with (first
              | (go_at_call 27; (with_reducible refine HC.out.mono ?_); rintro e W11 ⟨A11, c11, rfl, hc11, r11, hA11, b11⟩; rw [HRD.out.1] at r11 hc11 ⊢; have HF11 := Lib.hid (HF10.out.kept b11))
              | (go_at_call 20; refine (off_any _ HF11.out).mono ?_; rintro e w8 ⟨rfl, rfl⟩; rw [HEND.out.off])
              | (go_at_call 12; refine (num_any _ _).mono ?_; rintro e w8 ⟨rfl, rfl⟩))
            have HB11 := Lib.hid (HB10.out.trans (b11.mono HB10.out.size))
            have HALL := Lib.hid (show ∀ wr, Below W11.heap.size W11 wr → Row wr A11 i (read ((prog (cutA (os.take i) ms) 0 nx).2) 0 i) ∧ Row wr A3 i (os.take i) ∧ Row wr (some ⟨W4.heap.size, 0, none⟩) i nx ∧ Row wr a2 len2 ms from fun wr b => ⟨row_below b r11, row_below b (row_below b11 HN10.out), row_below b (row_below b11 HR10.out), (HROWS.out wr (HB11.out.trans (b.mono HB11.out.size))).2.2⟩)
            clear r11 hA11 b11 HC HR10 HN10
            generalize hrd : read ((prog (cutA (os.take i) ms) 0 nx).2) 0 i = rd at *
            clear hrd
            go_loopw [19] (fun v wr => Checking W11 i v wr) (fun v _ => i - (intOf v).toNat)
            case atStart => exact ⟨0, rfl, by omega, Below.refl _ _⟩
            case round =>
              obtain ⟨q, rfl, hq, hb12⟩ := hrel
              have q0 : (0 : Int) ≤ (q : Int) := by omega
              by_cases hlt3 : q < i
              · have q1 : (q : Int) < (i : Int) := by omega
                obtain ⟨x1, x2, x3, x4⟩ := HALL.out wr hb12
                obtain ⟨bb1, oo1, hx1, _, hcell1⟩ := row_open x1 (by omega)
                obtain ⟨bb2, oo2, hx2, _, hcell2⟩ := row_open x2 (by omega)
                obtain ⟨bb3, oo3, hx3, _, hcell3⟩ := row_open x3 (by omega)
                cases hx3
                subst hx1 hx2
                have c1 := hcell1 q hlt3
                have c2 := hcell2 q hlt3
                have c3' := hcell3 q hlt3
                rw [Nat.zero_add] at c3'
                have hval := HRD.out.2 q hlt3
                rw [hval] at c1
                have HE := clear_is (byt_at HNX.out.1 q) (mAt_byt HZ.out.2.2.1 q)
                have hyb := byt_at (byt_take HZ.out.1 i) q
                have hxb := byt_at HNX.out.1 q
                unfold mixI at c1
                clear hcell1 hcell2 hcell3 hval x1 x2 x3
                have hb13 := Lib.hid hb12.drew
                clear hb12
                by_cases h0 : len2 = 0
                · have e : mAt ms q = 0 := by unfold mAt; rw [if_pos (by rw [HZ.out.2.2.2.2.2]; exact h0)]
                  rw [e] at c1 HE
                  have m1 : ¬ (0 : Int) < (len2 : Int) := by omega
                  clear h0
                  obtain ⟨z1, z2, z3, z4⟩ := zero_facts hxb hyb
                  rw [z2, z3] at HE
                  rw [z1, ← HE, z4] at c1
                  generalize (os.take i).getD q 0 = y at *
                  generalize nx.getD q 0 = x at *
                  clear HE hyb hxb x4 e
                  go_wp2_with fail
                  go_region
                  go_wp2
                  go_roundw
                  case rel => exact ⟨q + 1, by go_num, by omega, hb13.out⟩
                  case measure => simp [intOf]; omega
                · have hml := HZ.out.2.2.2.2.2
                  have e : mAt ms q = ms.getD (q % len2) 0 := by unfold mAt; rw [if_neg (by rw [hml]; exact h0), hml]
                  have hlt4 : q % len2 < len2 := Nat.mod_lt _ (by omega)
                  obtain ⟨bb4, oo4, hx4, _, hcell4⟩ := row_open x4 (by omega)
                  subst hx4
                  have c4 := hcell4 (q % len2) hlt4
                  rw [← e] at c4
                  have ht := tmod_nat q len2
                  have r0 : (0 : Int) ≤ ((q % len2 : Nat) : Int) := by omega
                  have r1 : ((q % len2 : Nat) : Int) < (len2 : Int) := by omega
                  have m0 : ¬ (len2 : Int) = 0 := by omega
                  have m1 : (0 : Int) < (len2 : Int) := by omega
                  have m2 : 0 < len2 := by omega
                  have m3 : ((len2 : Int) == 0) = false := by simpa using m0
                  generalize (os.take i).getD q 0 = y at *
                  generalize nx.getD q 0 = x at *
                  generalize mAt ms q = s at *
                  generalize q % len2 = r at *
                  clear hcell4 x4 hyb hxb e hml
                  go_wp2_with fail
                  go_region
                  go_wp2
                  go_roundw
                  case rel => exact ⟨q + 1, by go_num, by omega, hb13.out⟩
                  case measure => simp [intOf]; omega
              · obtain rfl : q = i := by omega
                obtain ⟨W12, rfl⟩ : ∃ x, x = wr := ⟨_, rfl⟩
                have HF12 := Lib.hid (HF11.out.kept hb12)
                have HB12 := Lib.hid (HB11.out.trans (hb12.mono HB11.out.size))
                clear hb12
                go_wp2_with (first
                  | (go_at_call 18; refine (power_any _ HF12.out).mono ?_; rintro e W13 ⟨rfl, f13, o13⟩; have HF13 := Lib.hid f13; have HB13 := Lib.hid (HTO.out _ _ HB12.out o13); clear f13 o13)
                  | (go_at_call 20; refine (off_any _ HF13.out).mono ?_; rintro e w8 ⟨rfl, rfl⟩; rw [show (power ((prog (cutA (os.take q) ms) 0 nx).2)).off = false from rfl])
                  | (go_at_call 11; refine (erase_any 0 _ HF13.out (by have := HEND.out.ops; show ((prog (cutA (os.take q) ms) 0 nx).2).ops ≤ 1000000; omega) HEND.out.few).mono ?_; rintro e W14 ⟨rfl, f14, o14⟩; rw [HOFF.out.2.2]; have HB14 := Lib.hid (HTO.out _ _ HB13.out o14))
                  | (go_at_call 12; refine (num_any _ _).mono ?_; rintro e w8 ⟨rfl, rfl⟩))
                go_ret
                exact ⟨rfl, HB14.out⟩
  | true =>
    have HN := Lib.hid (show sect 1 = 1 from rfl)
    have HZ := Lib.hid (show Byt os ∧ Byt bs ∧ Byt ms ∧ os.length = len0 ∧ bs.length = len1 ∧ ms.length = len2 from ⟨ho.2.1, hb.2.1, hm.2.1, ho.1, hb.1, hm.1⟩)
    have hln : (os.take len1).length = len1 := by rw [List.length_take, ho.1]; omega
    have HNOW := Lib.hid (show Byt (os.take len1) ∧ (os.take len1).length = len1 from ⟨byt_take ho.2.1 _, hln⟩)
    have HROWS := Lib.hid (show ∀ wr, Below w.heap.size w wr → Row wr a0 len0 os ∧ Row wr a1 len1 bs ∧ Row wr a2 len2 ms from fun wr b => ⟨row_below b ho, row_below b hb, row_below b hm⟩)
    have n0 : (0 : Int) ≤ (len1 : Int) := by omega
    clear ho hb hm hln
    go_enter Try.func5, Try.ntmps5
    go_wp2_with (first
      | (go_at_call 8; refine (alive_any _).mono ?_; rintro e W1 ⟨rfl, H1⟩)
      | (go_at_call 9; refine (new_any _ _).mono ?_; rintro e W2 ⟨g, m, k, rfl, hg, hm, hk, f2, b2⟩; rw [HN.out] at f2))
    have HF2 := Lib.hid f2
    have H2 := Lib.hid (show Below w.heap.size w W2 from H1.trans (b2.mono H1.size))
    have hg' : w.heap.size ≤ g := Nat.le_trans H1.size hg
    have hm' : w.heap.size ≤ m := Nat.le_trans H1.size hm
    have hk' : w.heap.size ≤ k := Nat.le_trans H1.size hk
    have HTO := Lib.hid (show ∀ wa wb, Below w.heap.size w wa → Only (In3 g m k) wa wb → Below w.heap.size w wb from fun wa wb h o => below_to h hg' hm' hk' o)
    have HAW := Lib.hid (show ∀ A : Option Addr, (∀ x, A = some x → W2.heap.size ≤ x.block) → Away g m k A from fun A h x hx e => by have := h x hx; have := f2.in _ e; omega)
    clear f2 b2 H1 hg hm hk hg' hm' hk'
    go_loopw [11, 12] (fun v i wr => Taking w os W2 len1 v i wr) (fun _ i _ => len1 - (intOf i).toNat)
    case atStart => exact ⟨0, rfl, by omega, own_nil W2 W2.heap.size, H2.out, Below.refl _ _⟩
    case round =>
      obtain ⟨j, rfl, hj, own, hbw, hb2⟩ := hrel
      have j0 : (0 : Int) ≤ (j : Int) := by omega
      by_cases hlt : j < len1
      · have j1 : (j : Int) < (len1 : Int) := by omega
        have j2 : (j : Int) < (len0 : Int) := by omega
        obtain ⟨bo, oo, ha0, _, hcell⟩ := row_open (HROWS.out wr hbw).1 (by omega)
        subst ha0
        have qx := hcell j (by omega)
        have hxb := byt_at HZ.out.1 j
        have HT := Lib.hid (take_more os j (by rw [HZ.out.2.2.2.1]; omega))
        generalize os.getD j 0 = x at *
        have ba : Below wr.heap.size wr (wr.alloc (.cells #[.int .u8 x] 5)) := (Below.refl _ wr).alloc (Nat.le_refl _) _
        have o2 := own.kept ba
        have hm2 : Row (wr.alloc (.cells #[.int .u8 x] 5)) (some ⟨wr.heap.size, 0, none⟩) 1 [x] := row_text wr [x] (byt_one hxb) 1 rfl (0, 0)
        have HB2 := Lib.hid (show Below W2.heap.size W2 (wr.alloc (.cells #[.int .u8 x] 5)) from hb2.trans (ba.mono hb2.size))
        have hs2 : W2.heap.size ≤ (wr.alloc (.cells #[.int .u8 x] 5)).heap.size := HB2.out.size
        have HBW := Lib.hid hbw
        clear hcell hb2 hbw ba own
        go_wp2_with (at_builtin; (with_reducible refine wpList_app rfl _ _ rfl W2.heap.size u11 j (os.take j) rfl o2 _ _ _ [x] rfl hm2 (row_none hm2) (by omega) hs2 ?_); intro v3 w3 o3 g3; have b3 := below_own HB2.out o2 g3 (Nat.le_refl _) hs2)
        rw [HT.out] at o3
        go_roundw
        case rel => exact ⟨j + 1, by go_num, by omega, o3, H2.out.trans (b3.mono H2.out.size), b3⟩
        case measure => simp [intOf]; omega
      · obtain rfl : j = len1 := by omega
        obtain ⟨W3, rfl⟩ : ∃ x, x = wr := ⟨_, rfl⟩
        obtain ⟨A3, c3, rfl, hc3, r3, hA3⟩ := own.form
        have F3 := HF2.out.kept hb2
        have aw3 := HAW.out A3 (fun x hx => (hA3 x hx).1)
        have HC := Lib.hid (program_any 0 A3 j c3 (os.take j) W3 (i64_small (by omega)) F3 r3 aw3 (by simp [fresh]))
        have HR3 := Lib.hid r3
        have HA3 := Lib.hid aw3
        have HBW := Lib.hid hbw
        have hs3 := hb2.size
        clear own hb2 hbw F3 r3 aw3 hA3
        go_wp2_with (go_at_call 13; (with_reducible refine HC.out.mono ?_); rintro e W4 ⟨rfl, f4, o4⟩; have hmk := make_bytes j (by omega) W4)
        have HF4 := Lib.hid f4
        have HB4 := Lib.hid (HTO.out W3 W4 HBW.out o4)
        have HR4 := Lib.hid (row_keep HR3.out o4 HA3.out)
        have hs4 := Nat.le_trans hs3 o4.size
        clear f4 o4 HC hmk HR3 HBW
        go_loopw [14] (fun i wr => Nexting w (fun j' => fillc j j') W4 j i wr) (fun i _ => j - (intOf i).toNat)
        case atStart => exact ⟨0, rfl, by omega, by show Bk _ _ 5 (nums (fillc j 0)); rw [fillc_none]; exact bk_all _ _ _ (has_new W4 5 _), HB4.out.alloc HB4.out.size _, (Below.refl _ W4).alloc (Nat.le_refl _) _⟩
        case round =>
          obtain ⟨i, rfl, hi, hbk, hbw, hb4⟩ := hrel
          have i0 : (0 : Int) ≤ (i : Int) := by omega
          by_cases hlt2 : i < j
          · have i1 : (i : Int) < (j : Int) := by omega
            have i2 : (i : Int) < (len0 : Int) := by omega
            obtain ⟨ro, rb, _⟩ := HROWS.out wr hbw
            obtain ⟨b0, o0, ha0, _, hcell0⟩ := row_open ro (by omega)
            obtain ⟨b1, o1, ha1, _, hcell1⟩ := row_open rb (by omega)
            subst ha0 ha1
            have qo := hcell0 i (by omega)
            have qb := hcell1 i (by omega)
            have qg := bk_byte hbk i (by rw [fillc_len hi]; exact hlt2)
            have qf := hbk.soft i
            have hnx := fillc_next (show i < j from hlt2)
            have hup0 := bk_put_byte hbk i (by rw [fillc_len hi]; exact hlt2) (bits .and .u8 (bs.getD i 0) (os.getD i 0))
            have hup1 : Bk (((wr.setCell ⟨W4.heap.size, i, none⟩ (.int .u8 (bits .and .u8 (bs.getD i 0) (os.getD i 0)))).drew).setCell ⟨W4.heap.size, i, none⟩ (.int .u8 255)) W4.heap.size 5 (nums (((fillc j i).set i (bits .and .u8 (bs.getD i 0) (os.getD i 0))).set i 255)) := bk_put_byte (hup0.keep rfl) i (by rw [List.length_set, fillc_len hi]; exact hlt2) 255
            rw [List.set_set, hnx] at hup1
            have hup := hup1
            have qg2 : ((wr.setCell ⟨W4.heap.size, i, none⟩ (.int .u8 (bits .and .u8 (bs.getD i 0) (os.getD i 0)))).drew).cell? ⟨W4.heap.size, i, none⟩ = some (.int .u8 (bits .and .u8 (bs.getD i 0) (os.getD i 0))) := by
              have hl : i < ((fillc j i).set i (bits .and .u8 (bs.getD i 0) (os.getD i 0))).length := by rw [List.length_set, fillc_len hi]; exact hlt2
              have := bk_byte (hup0.keep (w' := (wr.setCell ⟨W4.heap.size, i, none⟩ (.int .u8 (bits .and .u8 (bs.getD i 0) (os.getD i 0)))).drew) rfl) i hl
              rw [getD_set _ _ _ _ (by rw [fillc_len hi]; exact hlt2), if_pos rfl] at this
              exact this
            have qf2 : ((wr.setCell ⟨W4.heap.size, i, none⟩ (.int .u8 (bits .and .u8 (bs.getD i 0) (os.getD i 0)))).drew).frozen? ⟨W4.heap.size, i, none⟩ = false := (hup0.keep (w' := (wr.setCell ⟨W4.heap.size, i, none⟩ (.int .u8 (bits .and .u8 (bs.getD i 0) (os.getD i 0)))).drew) rfl).soft i
            have hb5 := ((hb4.setCell (p := ⟨W4.heap.size, i, none⟩) (Nat.le_refl _) (.int .u8 (bits .and .u8 (bs.getD i 0) (os.getD i 0)))).drew).setCell (p := ⟨W4.heap.size, i, none⟩) (Nat.le_refl _) (.int .u8 255)
            have hw5 := ((hbw.setCell (p := ⟨W4.heap.size, i, none⟩) HB4.out.size (.int .u8 (bits .and .u8 (bs.getD i 0) (os.getD i 0)))).drew).setCell (p := ⟨W4.heap.size, i, none⟩) HB4.out.size (.int .u8 255)
            clear hup1 hup0
            generalize bs.getD i 0 = x at *
            generalize os.getD i 0 = y at *
            generalize (fillc j i).getD i 0 = u at *
            clear hcell0 hcell1 hbk hb4 hbw ro rb hnx
            go_wp2_with fail
            go_region
            go_wp2
            go_roundw
            case rel => exact ⟨i + 1, by go_num, by omega, hup, hw5, hb5⟩
            case measure => simp [intOf]; omega
          · obtain rfl : i = j := by omega
            obtain ⟨W5, rfl⟩ : ∃ x, x = wr := ⟨_, rfl⟩
            have hbk : Bk W5 W4.heap.size 5 (nums (fillc i i)) := hbk
            rw [fillc_all] at hbk
            have HEN := cut_erase (ms := ms) HNOW.out.1 HNOW.out.2 (by omega) HZ.out.2.2.1
            obtain ⟨nx, hnx⟩ : ∃ nx, List.replicate i (255 : Int) = nx := ⟨_, rfl⟩
            rw [hnx] at hbk HEN
            have HNX := Lib.hid (show Byt nx ∧ nx.length = i by rw [← hnx]; exact ⟨byt_same _ _ (by omega), List.length_replicate⟩)
            have HK := Lib.hid (cutA_is (ms := ms) HNOW.out.1 HNOW.out.2 (by omega))
            have HE1 := Lib.hid HEN
            have HEND := Lib.hid HEN.2.2.2
            have HOFF := Lib.hid (cut_after HEN.2.2.2)
            have HRD := Lib.hid (cut_read HEN.2.2.2 (by omega) (by omega))
            clear HEN hnx
            have hr5 : Row W5 (some ⟨W4.heap.size, 0, none⟩) i nx := by
              have := bk_row hbk HNX.out.1 0 i (by rw [HNX.out.2]; omega)
              rw [List.drop_zero, List.take_of_length_le (by rw [HNX.out.2]; exact Nat.le_refl _)] at this
              exact this
            have aw5 : Away g m k (some ⟨W4.heap.size, 0, none⟩) := HF4.out.away (Nat.le_refl _)
            have HC := Lib.hid (cut_any 0 a2 len2 cap2 ms W5 (i64_small (by omega)) (HF4.out.kept hb4) (HROWS.out W5 hbw).2.2 hmz (by omega) (Nat.le_trans hs4 hb4.size))
            have HR5 := Lib.hid hr5
            have HN5 := Lib.hid (row_below hb4 HR4.out)
            have HA5 := Lib.hid aw5
            have HBW := Lib.hid hbw
            have hs5 := Nat.le_trans hs4 hb4.size
            clear hbk hb4 hbw hr5 aw5 HR4
            go_wp2_with (go_at_call 16; (with_reducible refine HC.out.mono ?_); rintro e W6 ⟨rfl, f6, o6⟩)
            have HMT := Lib.hid (show ms.take (prog (fresh 1) 0 (os.take i)).2.mem.length = ms from List.take_of_length_le (by rw [HZ.out.2.2.2.2.2, show (prog (fresh 1) 0 (os.take i)).2.mem.length = 320 from HK.out.2.2.2.2.2.1]; omega))
            rw [show (max (0 : Int) 0).toNat = 0 from rfl, HMT.out] at f6
            have HF6 := Lib.hid (show Fl W6 W2.heap.size g m k (cutA (os.take i) ms) from f6)
            have HB6 := Lib.hid (HTO.out W5 W6 HBW.out o6)
            have HR6 := Lib.hid (row_keep HR5.out o6 HA5.out)
            have HN6 := Lib.hid (row_keep HN5.out o6 HA3.out)
            have hs6 := Nat.le_trans hs5 o6.size
            clear f6 o6 HC HR5 HN5 HBW
            have HC := Lib.hid (program_any 0 (some ⟨W4.heap.size, 0, none⟩) i i nx W6 (i64_small (by omega)) HF6.out HR6.out HA5.out (by rw [HK.out.2.2.2.1]; omega))
            go_wp2_with (go_at_call 13; (with_reducible refine HC.out.mono ?_); rintro e W7 ⟨rfl, f7, o7⟩)
            have HB7 := Lib.hid (HTO.out W6 W7 HB6.out o7)
            have HR7 := Lib.hid (row_keep HR6.out o7 HA5.out)
            have HN7 := Lib.hid (row_keep HN6.out o7 HA3.out)
            have hs7 := Nat.le_trans hs6 o7.size
            have HL7 := Lib.hid (show (prog (cutA (os.take i) ms) 0 nx).2.mem.length = 320 by rw [prog_len]; exact HK.out.2.2.2.2.2.1)
            have HC := Lib.hid (power_any W7 f7)
            go_wp2_with (go_at_call 18; (with_reducible refine HC.out.mono ?_); rintro e W71 ⟨rfl, f71, o71⟩)
            have HB71 := Lib.hid (HTO.out W7 W71 HB7.out o71)
            have HR71 := Lib.hid (row_keep HR7.out o71 HA5.out)
            have HN71 := Lib.hid (row_keep HN7.out o71 HA3.out)
            have hs71 := Nat.le_trans hs7 o71.size
            have HC := Lib.hid (cut_any 0 a2 len2 cap2 ms W71 (i64_small (by omega)) f71 (HROWS.out W71 HB71.out).2.2 hmz (by omega) hs71)
            go_wp2_with (go_at_call 16; (with_reducible refine HC.out.mono ?_); rintro e W72 ⟨rfl, f72, o72⟩)
            have HMT2 := Lib.hid (show ms.take (power (prog (cutA (os.take i) ms) 0 nx).2).mem.length = ms from List.take_of_length_le (by rw [HZ.out.2.2.2.2.2, show (power (prog (cutA (os.take i) ms) 0 nx).2).mem.length = 320 from HL7.out]; omega))
            rw [show (max (0 : Int) 0).toNat = 0 from rfl, HMT2.out] at f72
            have f72' : Fl W72 W2.heap.size g m k (cutB (os.take i) nx ms) := f72
            have HB72 := Lib.hid (HTO.out W71 W72 HB71.out o72)
            have HR72 := Lib.hid (row_keep HR71.out o72 HA5.out)
            have HN72 := Lib.hid (row_keep HN71.out o72 HA3.out)
            have HC := Lib.hid (erase_any 0 W72 f72' (by have := HE1.out.1; omega) HE1.out.2.1)
            go_wp2_with (go_at_call 11; (with_reducible refine HC.out.mono ?_); rintro e W8 ⟨rfl, f8, o8⟩)
            rw [HE1.out.2.2.1]
            have HF8 := Lib.hid f8
            have HB8 := Lib.hid (HTO.out W72 W8 HB72.out o8)
            have HR8 := Lib.hid (row_keep HR72.out o8 HA5.out)
            have HN8 := Lib.hid (row_keep HN72.out o8 HA3.out)
            clear f7 o7 HC HR7 HN7 HB7 HR6 HN6 f71 o71 HB71 HR71 HN71 f72 o72 f72' HB72 HR72 HN72 f8 o8
            -- all is cut: the flash is off
            have HC := Lib.hid (erase_any 0 W8 HF8.out (by have := HEND.out.ops; omega) HEND.out.few)
            go_wp2_with (go_at_call 11; (with_reducible refine HC.out.mono ?_); rintro e W9 ⟨rfl, f9, o9⟩)
            rw [HOFF.out.1] at f9 ⊢
            have HF9 := Lib.hid (show Fl W9 W2.heap.size g m k ((erase (cutB (os.take i) nx ms) 0).2) from f9)
            have HB9 := Lib.hid (HTO.out W8 W9 HB8.out o9)
            have HR9 := Lib.hid (row_keep HR8.out o9 HA5.out)
            have HN9 := Lib.hid (row_keep HN8.out o9 HA3.out)
            clear f9 o9 HC
            have HC := Lib.hid (program_any 0 none 0 0 [] W9 (i64_small (by omega)) HF9.out (row_nil _) (fun x hx => by cases hx) (by have := HEND.out.ops; omega))
            go_wp2_with (go_at_call 13; (with_reducible refine HC.out.mono ?_); rintro e W10 ⟨rfl, f10, o10⟩)
            rw [HOFF.out.2.1] at f10 ⊢
            have HF10 := Lib.hid (show Fl W10 W2.heap.size g m k ((erase (cutB (os.take i) nx ms) 0).2) from f10)
            have HB10 := Lib.hid (HTO.out W9 W10 HB9.out o10)
            have HR10 := Lib.hid (row_keep HR9.out o10 HA5.out)
            have HN10 := Lib.hid (row_keep HN9.out o10 HA3.out)
            clear f10 o10 HC HF9 HF8
            have HC := Lib.hid (read_any 0 i W10 (i64_small (by omega)) (i64_small (by omega)) HF10.out)
            go_wp2_with (first
              | (go_at_call 27; (with_reducible refine HC.out.mono ?_); rintro e W11 ⟨A11, c11, rfl, hc11, r11, hA11, b11⟩; rw [HRD.out.1] at r11 hc11 ⊢; have HF11 := Lib.hid (HF10.out.kept b11))
              | (go_at_call 20; refine (off_any _ HF11.out).mono ?_; rintro e w8 ⟨rfl, rfl⟩; rw [HEND.out.off])
              | (go_at_call 12; refine (num_any _ _).mono ?_; rintro e w8 ⟨rfl, rfl⟩))
            have HB11 := Lib.hid (HB10.out.trans (b11.mono HB10.out.size))
            have HALL := Lib.hid (show ∀ wr, Below W11.heap.size W11 wr → Row wr A11 i (read ((erase (cutB (os.take i) nx ms) 0).2) 0 i) ∧ Row wr A3 i (os.take i) ∧ Row wr (some ⟨W4.heap.size, 0, none⟩) i nx ∧ Row wr a2 len2 ms from fun wr b => ⟨row_below b r11, row_below b (row_below b11 HN10.out), row_below b (row_below b11 HR10.out), (HROWS.out wr (HB11.out.trans (b.mono HB11.out.size))).2.2⟩)
            clear r11 hA11 b11 HC HR10 HN10
            generalize hrd : read ((erase (cutB (os.take i) nx ms) 0).2) 0 i = rd at *
            clear hrd
            go_loopw [19] (fun v wr => Checking W11 i v wr) (fun v _ => i - (intOf v).toNat)
            case atStart => exact ⟨0, rfl, by omega, Below.refl _ _⟩
            case round =>
              obtain ⟨q, rfl, hq, hb12⟩ := hrel
              have q0 : (0 : Int) ≤ (q : Int) := by omega
              by_cases hlt3 : q < i
              · have q1 : (q : Int) < (i : Int) := by omega
                obtain ⟨x1, x2, x3, x4⟩ := HALL.out wr hb12
                obtain ⟨bb1, oo1, hx1, _, hcell1⟩ := row_open x1 (by omega)
                obtain ⟨bb2, oo2, hx2, _, hcell2⟩ := row_open x2 (by omega)
                obtain ⟨bb3, oo3, hx3, _, hcell3⟩ := row_open x3 (by omega)
                cases hx3
                subst hx1 hx2
                have c1 := hcell1 q hlt3
                have c2 := hcell2 q hlt3
                have c3' := hcell3 q hlt3
                rw [Nat.zero_add] at c3'
                have hval := HRD.out.2 q hlt3
                rw [hval] at c1
                have HE := clear_is (byt_at HNX.out.1 q) (mAt_byt HZ.out.2.2.1 q)
                have hyb := byt_at (byt_take HZ.out.1 i) q
                have hxb := byt_at HNX.out.1 q
                unfold mixI at c1
                clear hcell1 hcell2 hcell3 hval x1 x2 x3
                have hb13 := Lib.hid hb12.drew
                clear hb12
                by_cases h0 : len2 = 0
                · have e : mAt ms q = 0 := by unfold mAt; rw [if_pos (by rw [HZ.out.2.2.2.2.2]; exact h0)]
                  rw [e] at c1 HE
                  have m1 : ¬ (0 : Int) < (len2 : Int) := by omega
                  clear h0
                  obtain ⟨z1, z2, z3, z4⟩ := zero_facts hxb hyb
                  rw [z2, z3] at HE
                  rw [z1, ← HE, z4] at c1
                  generalize (os.take i).getD q 0 = y at *
                  generalize nx.getD q 0 = x at *
                  clear HE hyb hxb x4 e
                  go_wp2_with fail
                  go_region
                  go_wp2
                  go_roundw
                  case rel => exact ⟨q + 1, by go_num, by omega, hb13.out⟩
                  case measure => simp [intOf]; omega
                · have hml := HZ.out.2.2.2.2.2
                  have e : mAt ms q = ms.getD (q % len2) 0 := by unfold mAt; rw [if_neg (by rw [hml]; exact h0), hml]
                  have hlt4 : q % len2 < len2 := Nat.mod_lt _ (by omega)
                  obtain ⟨bb4, oo4, hx4, _, hcell4⟩ := row_open x4 (by omega)
                  subst hx4
                  have c4 := hcell4 (q % len2) hlt4
                  rw [← e] at c4
                  have ht := tmod_nat q len2
                  have r0 : (0 : Int) ≤ ((q % len2 : Nat) : Int) := by omega
                  have r1 : ((q % len2 : Nat) : Int) < (len2 : Int) := by omega
                  have m0 : ¬ (len2 : Int) = 0 := by omega
                  have m1 : (0 : Int) < (len2 : Int) := by omega
                  have m2 : 0 < len2 := by omega
                  have m3 : ((len2 : Int) == 0) = false := by simpa using m0
                  generalize (os.take i).getD q 0 = y at *
                  generalize nx.getD q 0 = x at *
                  generalize mAt ms q = s at *
                  generalize q % len2 = r at *
                  clear hcell4 x4 hyb hxb e hml
                  go_wp2_with fail
                  go_region
                  go_wp2
                  go_roundw
                  case rel => exact ⟨q + 1, by go_num, by omega, hb13.out⟩
                  case measure => simp [intOf]; omega
              · obtain rfl : q = i := by omega
                obtain ⟨W12, rfl⟩ : ∃ x, x = wr := ⟨_, rfl⟩
                have HF12 := Lib.hid (HF11.out.kept hb12)
                have HB12 := Lib.hid (HB11.out.trans (hb12.mono HB11.out.size))
                clear hb12
                go_wp2_with (first
                  | (go_at_call 18; refine (power_any _ HF12.out).mono ?_; rintro e W13 ⟨rfl, f13, o13⟩; have HF13 := Lib.hid f13; have HB13 := Lib.hid (HTO.out _ _ HB12.out o13); clear f13 o13)
                  | (go_at_call 20; refine (off_any _ HF13.out).mono ?_; rintro e w8 ⟨rfl, rfl⟩; rw [show (power ((erase (cutB (os.take q) nx ms) 0).2)).off = false from rfl])
                  | (go_at_call 11; refine (erase_any 0 _ HF13.out (by have := HEND.out.ops; show ((erase (cutB (os.take q) nx ms) 0).2).ops ≤ 1000000; omega) HEND.out.few).mono ?_; rintro e W14 ⟨rfl, f14, o14⟩; rw [HOFF.out.2.2]; have HB14 := Lib.hid (HTO.out _ _ HB13.out o14))
                  | (go_at_call 12; refine (num_any _ _).mono ?_; rintro e w8 ⟨rfl, rfl⟩))
                go_ret
                exact ⟨rfl, HB14.out⟩

/-! ### THE ROW's STEP: WRITTEN OUT: LEAVE IT -/
set_option maxRecDepth 100000 in
theorem lifted (os : Os) (started : os.Started) (H : Type) (enc : TypeId × Value → H) :
    ReturnsInHanded {} Try.checked os 5 .any (Rows.norCutsSpec.pre6 enc Try.prog Try.f5 Rows.norCutsRow.domain false) (Rows.norCutsSpec.post enc Try.prog Try.f5 false true false false) := by
  refine returnsInHanded_of_change (C := Try.checked) own started (by kernel_rfl) Try.func5
    (ChangeSpec.witness6 (enc := enc) (C := Try.checked) false ⟨#[], #[.slice none 0 0, .slice none 0 0, .slice none 0 0, .bool false], []⟩ 8 (by kernel_rfl) (by kernel_rfl) (by kernel_rfl) (by kernel_rfl)) ?_
  intro W base args ds gs before hval0 hW hcnd _
  have hval : ∀ (j : Nat) t v, Try.f5.params[j]? = some t → args[j]? = some v → Value.okWide Try.prog W .any base t v := hval0
  have hW' := hW
  obtain ⟨p, q, hA0, hV, rfl, hfz, hnd⟩ := hW
  have hA : DataW.TrodAll enc Try.prog W 0 (fun _ => true) true Try.f5.params.toList args.toList ds p := hA0
  rw [Try.params5] at hA hval
  obtain ⟨v0, vs0, d0, ds0, p0, q0, hargs, rfl, rfl, h0, r0⟩ := trodAll_cons hA
  obtain ⟨v1, vs1, d1, ds1, p1, q1, rfl, rfl, rfl, h1, r1⟩ := trodAll_cons r0
  obtain ⟨v2, vs2, d2, ds2, p2, q2, rfl, rfl, rfl, h2, r2⟩ := trodAll_cons r1
  obtain ⟨v3, vs3, d3, ds3, p3, q3, rfl, rfl, rfl, h3, r3⟩ := trodAll_cons r2
  obtain ⟨rfl, rfl, rfl⟩ := trodAll_nil r3
  obtain rfl : args = #[v0, v1, v2, v3] := by cases args; simp_all
  obtain ⟨rfl, rfl⟩ := trodVars_none hV
  obtain ⟨a0, len0, cap0, rfl⟩ := okWide_slice Try.underlying28 (hval 0 28 v0 rfl rfl)
  have k0 := h0
  have lt0 : ∀ x ∈ p0, x.block < W.heap.size := by obtain ⟨m, hm⟩ := k0; exact DataW.trod_lt m _ _ _ hm
  obtain ⟨z0, w0⟩ : ∃ zs, IsRow .u8 W a0 len0 cap0 zs := by
    obtain ⟨fuel, hf⟩ := h0
    rcases open_ints Try.underlying28 Try.underlying5 (by kernel_rfl) hf with ⟨hcs, _⟩ | ⟨x, l, c, zs, hcs, _, hl, hm, hz, _, hcell, hwz⟩
    · simp [Value.cells] at hcs
      obtain ⟨rfl, rfl, rfl⟩ := hcs
      exact ⟨[], .inl ⟨rfl, rfl, rfl, rfl⟩⟩
    · simp [Value.cells] at hcs
      obtain ⟨rfl, rfl, rfl⟩ := hcs
      exact ⟨zs, .inr ⟨_, rfl, hl, hm, by simpa using hz, hcell, hwz⟩⟩
  obtain ⟨a1, len1, cap1, rfl⟩ := okWide_slice Try.underlying28 (hval 1 28 v1 rfl rfl)
  have k1 := h1
  have lt1 : ∀ x ∈ p1, x.block < W.heap.size := by obtain ⟨m, hm⟩ := k1; exact DataW.trod_lt m _ _ _ hm
  obtain ⟨z1, w1⟩ : ∃ zs, IsRow .u8 W a1 len1 cap1 zs := by
    obtain ⟨fuel, hf⟩ := h1
    rcases open_ints Try.underlying28 Try.underlying5 (by kernel_rfl) hf with ⟨hcs, _⟩ | ⟨x, l, c, zs, hcs, _, hl, hm, hz, _, hcell, hwz⟩
    · simp [Value.cells] at hcs
      obtain ⟨rfl, rfl, rfl⟩ := hcs
      exact ⟨[], .inl ⟨rfl, rfl, rfl, rfl⟩⟩
    · simp [Value.cells] at hcs
      obtain ⟨rfl, rfl, rfl⟩ := hcs
      exact ⟨zs, .inr ⟨_, rfl, hl, hm, by simpa using hz, hcell, hwz⟩⟩
  obtain ⟨a2, len2, cap2, rfl⟩ := okWide_slice Try.underlying28 (hval 2 28 v2 rfl rfl)
  have k2 := h2
  have lt2 : ∀ x ∈ p2, x.block < W.heap.size := by obtain ⟨m, hm⟩ := k2; exact DataW.trod_lt m _ _ _ hm
  obtain ⟨z2, w2⟩ : ∃ zs, IsRow .u8 W a2 len2 cap2 zs := by
    obtain ⟨fuel, hf⟩ := h2
    rcases open_ints Try.underlying28 Try.underlying5 (by kernel_rfl) hf with ⟨hcs, _⟩ | ⟨x, l, c, zs, hcs, _, hl, hm, hz, _, hcell, hwz⟩
    · simp [Value.cells] at hcs
      obtain ⟨rfl, rfl, rfl⟩ := hcs
      exact ⟨[], .inl ⟨rfl, rfl, rfl, rfl⟩⟩
    · simp [Value.cells] at hcs
      obtain ⟨rfl, rfl, rfl⟩ := hcs
      exact ⟨zs, .inr ⟨_, rfl, hl, hm, by simpa using hz, hcell, hwz⟩⟩
  obtain ⟨a3, rfl, rfl, rfl⟩ := open_bool Try.underlying4 (hval 3 4 v3 rfl rfl) h3
  clear hA0 hval0
  refine (walk a0 len0 cap0 z0 a1 len1 cap1 z1 a2 len2 cap2 z2 a3 W w0 w1 w2).mono fun e W' ⟨he, bel⟩ => ?_
  subst he
  exact ⟨_, rfl, _, _, _, [], _, [], hW', trodAll_mk1 (shut_bool Try.underlying4 _), (trodAll_cons_mk (Below.trod laidOut (by kernel_rfl) (of_decide_eq_true (by kernel_rfl)) k0 bel lt0) (trodAll_cons_mk (Below.trod laidOut (by kernel_rfl) (of_decide_eq_true (by kernel_rfl)) k1 bel lt1) (trodAll_cons_mk (Below.trod laidOut (by kernel_rfl) (of_decide_eq_true (by kernel_rfl)) k2 bel lt2) (trodAll_cons_mk (shut_bool Try.underlying4 _) trodAll_mk0)))), rfl, bel.frame _, fun h => by cases h⟩

theorem over : Rows.norCutsRow.holds Try.pinned (OpenSpec.ofChange Rows.norCutsSpec) :=
  OpenClaim.holds_of_wide 5 Try.f5 rfl rfl rfl rfl rfl rfl rfl ⟨rfl, rfl, rfl, rfl, rfl⟩ rfl rfl rfl rfl rfl (by kernel_rfl) Try.func5 (by kernel_rfl)
    (of_decide_eq_true (by kernel_rfl)) (by unfold Func.isWrapper; first | (rw [if_pos (by decide +kernel)]; kernel_rfl) | (rw [if_neg (by decide +kernel)]; exact ⟨rfl, rfl⟩))
    (fun os started H enc _ => lifted os started H enc)

/-- ████ THE STATEMENT ████ -/
theorem proved : Rows.NorCutsSaid := over
end Go.Proofs.Ytobjolcacopgbaa.norCuts
namespace Go.Proofs.Ytobjolcacopgbaa
theorem NorCuts_holds : Rows.NorCutsSaid := norCuts.proved
#print axioms NorCuts_holds
end Go.Proofs.Ytobjolcacopgbaa
