/-
  The calls that read: the program's Get and the document's own; conditions: the row reads as bytes.
-/
import Derived.Test.YtclephjnokbaoaaCeDuPut
namespace Go.Proofs.Ytclephjnokbaoaa
open Go.RowKit
set_option linter.unusedVariables false
set_option linter.unusedSimpArgs false

/-- So many pairs are looked through. -/
def Looking (w : World) (zs : List Int) (n : Nat) (i : Value) (wr : World) : Prop := ∃ k : Nat, 2 * k ≤ n ∧ i = .int .i64 ((2 * k : Nat) : Int) ∧ upto zs k ∧ Below w.heap.size w wr
/-- Whether a row is of pairs alone. -/
def CeLooked (zs : List Int) (w : World) (e : Ending) (w' : World) : Prop := (∃ b, e = .returned (.bool b) ∧ (b = true ↔ Whole zs)) ∧ Below w.heap.size w w'
theorem mod_two (n : Nat) : (n : Int).tmod 2 = ((n % 2 : Nat) : Int) := by rw [Int.tmod_eq_emod_of_nonneg (by omega)]; omega
set_option maxRecDepth 100000 in
theorem whole_any (a : Option Addr) (n cap : Nat) (zs : List Int) (w : World) (hr : Row w a n zs) (hn : n ≤ 1000000) :
    Calls Try.prog 84 #[.slice a n cap] w (CeLooked zs w) := by
  have HR := Lib.hid hr
  have hmod := mod_two n
  clear hr
  by_cases h2 : n % 2 = 0
  · rw [h2] at hmod
    have hmod' : (n : Int).tmod 2 = 0 := hmod
    clear hmod
    go_enter Try.func84, Try.ntmps84
    go_wp2
    go_loopw [3] (fun i wr => Looking w zs n i wr) (fun i _ => n - (intOf i).toNat)
    case atStart => exact ⟨0, by omega, rfl, upto_zero zs, Below.refl _ _⟩
    case round =>
      obtain ⟨k, hk, rfl, hu, hb⟩ := hrel
      by_cases hlt : 2 * k < n
      · obtain ⟨b, off, rfl, hbw, hcell⟩ := row_open (row_below hb HR.out) (by omega)
        have hc1 := hcell (2 * k) hlt
        have hc2 := hcell (2 * k + 1) (by omega)
        have hz := byt_at HR.out.2.1 (2 * k)
        have HU := Lib.hid (@upto_more zs k hu)
        have HN := Lib.hid (@upto_no zs k (by have := HR.out.1; omega))
        have HB := Lib.hid hb
        clear hcell hu hb
        generalize zs.getD (2 * k) 0 = x at *
        generalize zs.getD (2 * k + 1) 0 = y at *
        have hfl : bits .xor .u8 IntKind.u8.max x = 255 - x := flip_left hz
        obtain ⟨K, hK⟩ : ∃ K, 2 * k = K := ⟨_, rfl⟩
        rw [hK] at hc1 hc2 hlt hk ⊢
        have i0 : (K : Int) < (n : Int) := by omega
        have i1 : (0 : Int) ≤ (K : Int) := by omega
        have i2 : (K : Int) + 1 < (n : Int) := by omega
        have i3 : (0 : Int) ≤ (K : Int) + 1 := by omega
        have i4 : IntKind.i64.wrap ((K : Int) + 1) = (K : Int) + 1 := by rw [IntKind.wrap_i64]; omega
        have i5 : ((K : Int) + 1).toNat = K + 1 := by omega
        by_cases hxy : y = 255 - x
        · subst hxy
          have bd := HB.out.drew
          have hcond : (255 - x != bits .xor .u8 (if IntKind.u8.signed = true then -1 else IntKind.u8.max) x) = false := by
            rw [show bits .xor .u8 (if IntKind.u8.signed = true then -1 else IntKind.u8.max) x = 255 - x from flip_left hz]
            simp
          go_wp2
          go_region
          all_goals
            go_wp2
            go_roundw
            case rel => exact ⟨k + 1, by omega, by go_num, HU.out trivial, bd⟩
            case measure => simp [intOf]; omega
        · have hcond : (y != bits .xor .u8 (if IntKind.u8.signed = true then -1 else IntKind.u8.max) x) = true := by
            rw [show bits .xor .u8 (if IntKind.u8.signed = true then -1 else IntKind.u8.max) x = 255 - x from flip_left hz]
            simpa using hxy
          have bd := HB.out.drew
          go_wp2
          go_region
          all_goals
            go_wp2
            go_ret
            exact ⟨⟨_, rfl, ⟨fun h => Bool.noConfusion h, fun h => absurd h (HN.out hxy)⟩⟩, bd⟩
      · go_wp2
        go_ret
        exact ⟨⟨_, rfl, ⟨fun _ => ⟨by rw [HR.out.1]; exact h2, by rw [HR.out.1, show n / 2 = k by omega]; exact hu⟩, fun _ => rfl⟩⟩, hb⟩
  · rw [show n % 2 = 1 by omega] at hmod
    have hmod' : (n : Int).tmod 2 = 1 := hmod
    clear hmod
    go_enter Try.func84, Try.ntmps84
    go_wp2
    go_ret
    exact ⟨⟨_, rfl, ⟨fun h => Bool.noConfusion h, fun h => absurd h (odd_no (by rw [HR.out.1]; exact h2))⟩⟩, Below.refl _ _⟩
theorem whole_yes (a : Option Addr) (n cap : Nat) (zs : List Int) (w : World) (hr : Row w a n zs) (hn : n ≤ 1000000) (h : Whole zs) :
    Calls Try.prog 84 #[.slice a n cap] w fun e w' => e = .returned (.bool true) ∧ Below w.heap.size w w' :=
  (whole_any a n cap zs w hr hn).mono fun e w' ⟨⟨b, h1, h2⟩, h3⟩ => ⟨by rw [h1, h2.2 h], h3⟩
theorem whole_not (a : Option Addr) (n cap : Nat) (zs : List Int) (w : World) (hr : Row w a n zs) (hn : n ≤ 1000000) (h : ¬ Whole zs) :
    Calls Try.prog 84 #[.slice a n cap] w fun e w' => e = .returned (.bool false) ∧ Below w.heap.size w w' :=
  (whole_any a n cap zs w hr hn).mono fun e w' ⟨⟨b, h1, h2⟩, h3⟩ => ⟨by rw [h1]; cases b with | false => rfl | true => exact absurd (h2.1 rfl) h, h3⟩
/-- What a call that reads answers. -/
def Told (zs : List Int) (w : World) (e : Ending) (w' : World) : Prop := ∃ v rs b, e = .returned (.tuple #[v, .bool b]) ∧ Read zs rs b ∧ Own w' w.heap.size v rs.length rs ∧ Below w.heap.size w w'
/-- So many bytes are read. -/
def Getting (w wm : World) (zs : List Int) (n : Nat) (v i : Value) (wr : World) : Prop := ∃ k : Nat, 2 * k ≤ n ∧ i = .int .i64 ((2 * k : Nat) : Int) ∧ Own wr wm.heap.size v k (evL zs k) ∧ Below w.heap.size w wr ∧ Below wm.heap.size wm wr
set_option maxRecDepth 100000 in
theorem get_any (a : Option Addr) (n cap : Nat) (zs : List Int) (w : World) (hr : Row w a n zs) (hn : n ≤ 100000) :
    Calls Try.prog 71 #[.slice a n cap] w (Told zs w) := by
  have HR := Lib.hid hr
  by_cases hw : Whole zs
  · have HW := Lib.hid (whole_yes a n cap zs w hr (by omega) hw)
    have hev := hw.1
    rw [hr.1] at hev
    have hq : (n : Int).tdiv 2 = ((n / 2 : Nat) : Int) := by rw [Int.tdiv_eq_ediv_of_nonneg (by omega)]; omega
    obtain ⟨m, hm⟩ : ∃ m, n / 2 = m := ⟨_, rfl⟩
    rw [hm] at hq
    have HQ := Lib.hid (show Whole zs from hw)
    clear hr hw
    go_enter Try.func71, Try.ntmps71
    go_wp2_with (go_at_call 84; (with_reducible refine HW.out.mono ?_); rintro e wm ⟨rfl, H1⟩; have hmk := ce_make_bytes .i64 .i64 0 m (by omega) (by omega) wm; replace hmk : (Instr.makeSlice 38 (.int .i64 0) (.int .i64 (m : Int))).run Try.prog wm = .ok (.slice (some ⟨wm.heap.size, 0, none⟩) 0 m) (wm.alloc (.cells (zeroBytes m) 5)) := hmk)
    have HM := Lib.hid (own_made wm wm.heap.size m (by omega) (Nat.le_refl _))
    have HB := Lib.hid (show Below w.heap.size w (wm.alloc (.cells (zeroBytes m) 5)) ∧ Below wm.heap.size wm (wm.alloc (.cells (zeroBytes m) 5)) from ⟨H1.alloc H1.size _, (Below.refl _ _).alloc (Nat.le_refl _) _⟩)
    clear hmk HW
    go_loopw [4, 5] (fun v i wr => Getting w wm zs n v i wr) (fun _ i _ => n - (intOf i).toNat)
    case atStart => exact ⟨0, by omega, rfl, HM.out, HB.out.1, HB.out.2⟩
    case round =>
      clear HM HB
      obtain ⟨k, hk, rfl, ho, hb, hb1⟩ := hrel
      by_cases hlt : 2 * k < n
      · obtain ⟨b, off, rfl, hbw, hcell⟩ := row_open (row_below hb HR.out) (by omega)
        have hc1 := hcell (2 * k) hlt
        have hz := byt_at HR.out.2.1 (2 * k)
        have HS := Lib.hid (ev_more zs k)
        clear hcell
        generalize zs.getD (2 * k) 0 = x at *
        obtain ⟨K, hK⟩ : ∃ K, 2 * k = K := ⟨_, rfl⟩
        rw [hK] at hc1 hlt hk ⊢
        have i0 : (K : Int) < (n : Int) := by omega
        have i1 : (0 : Int) ≤ (K : Int) := by omega
        have hr2 := row_one wr hz
        have ba : Below wr.heap.size wr (wr.alloc (.cells #[.int .u8 x] 5)) := (Below.refl _ wr).alloc (Nat.le_refl _) _
        have ho2 := ho.kept ba
        have hb2 := hb1.trans (ba.mono hb1.size)
        have hsz := hb2.size
        have HK := Lib.hid hK
        have hk6 : k ≤ 500000 := by omega
        clear hK hb hb1 ba ho
        go_wp2_with (at_builtin; (with_reducible refine wpList_app rfl _ _ rfl wm.heap.size u4 k (evL zs k) rfl ho2 _ _ _ [x] rfl hr2 (row_none hr2) (by omega) hsz ?_); intro v' w' h3 h4)
        have hK := HK.out
        rw [HS.out] at h3
        have hb3 := below_own hb2 ho2 h4 (Nat.le_refl _) hsz
        go_roundw
        case rel => exact ⟨k + 1, by omega, by go_num, h3, H1.trans (hb3.mono H1.size), hb3⟩
        case measure => simp [intOf]; omega
      · have hkm : k = zs.length / 2 := by have := HR.out.1; omega
        have ho2 := ho.lower H1.size
        go_wp2
        go_ret2
        exact ⟨_, evL zs k, true, rfl, .inl ⟨HQ.out, by rw [hkm], rfl⟩, by rw [ev_len]; exact ho2, hb⟩
  · have HW := Lib.hid (whole_not a n cap zs w hr (by omega) hw)
    have HQ := Lib.hid (show ¬ Whole zs from hw)
    clear hr hw
    go_enter Try.func71, Try.ntmps71
    go_wp2_with (go_at_call 84; (with_reducible refine HW.out.mono ?_); rintro e wm ⟨rfl, H1⟩)
    go_ret2
    exact ⟨_, [], _, rfl, .inr ⟨HQ.out, rfl, rfl⟩, own_nil _ _, H1⟩
/-- So many pairs are read. -/
def Taking (w : World) (zs : List Int) (n : Nat) (v i : Value) (wr : World) : Prop := ∃ k : Nat, 2 * k ≤ n ∧ i = .int .i64 ((2 * k : Nat) : Int) ∧ upto zs k ∧ Own wr w.heap.size v k (evL zs k) ∧ Below w.heap.size w wr
set_option maxRecDepth 100000 in
theorem rget_any (a : Option Addr) (n cap : Nat) (zs : List Int) (w : World) (hr : Row w a n zs) (hn : n ≤ 100000) :
    Calls Try.prog 63 #[.slice a n cap] w (Told zs w) := by
  have HR := Lib.hid hr
  have hmod := mod_two n
  clear hr
  by_cases h2 : n % 2 = 0
  · rw [h2] at hmod
    have hmod' : (n : Int).tmod 2 = 0 := hmod
    clear hmod
    go_enter Try.func63, Try.ntmps63
    go_wp2
    go_loopw [4, 5] (fun v i wr => Taking w zs n v i wr) (fun _ i _ => n - (intOf i).toNat)
    case atStart => exact ⟨0, by omega, rfl, upto_zero zs, own_nil _ _, Below.refl _ _⟩
    case round =>
      obtain ⟨k, hk, rfl, hu, ho, hb⟩ := hrel
      by_cases hlt : 2 * k < n
      · obtain ⟨b, off, rfl, hbw, hcell⟩ := row_open (row_below hb HR.out) (by omega)
        have hc1 := hcell (2 * k) hlt
        have hc2 := hcell (2 * k + 1) (by omega)
        have hz := byt_at HR.out.2.1 (2 * k)
        have hz' := byt_at HR.out.2.1 (2 * k + 1)
        have HU := Lib.hid (@upto_more zs k hu)
        have HN := Lib.hid (@upto_no zs k (by have := HR.out.1; omega))
        have HS := Lib.hid (ev_more zs k)
        have HB := Lib.hid hb
        clear hcell hu hb
        generalize zs.getD (2 * k) 0 = x at *
        generalize zs.getD (2 * k + 1) 0 = y at *
        have hxo := xor_all hz hz'
        obtain ⟨K, hK⟩ : ∃ K, 2 * k = K := ⟨_, rfl⟩
        rw [hK] at hc1 hc2 hlt hk ⊢
        have i0 : (K : Int) < (n : Int) := by omega
        have i1 : (0 : Int) ≤ (K : Int) := by omega
        have i2 : (K : Int) + 1 < (n : Int) := by omega
        have i3 : (0 : Int) ≤ (K : Int) + 1 := by omega
        have i4 : IntKind.i64.wrap ((K : Int) + 1) = (K : Int) + 1 := by rw [IntKind.wrap_i64]; omega
        have i5 : ((K : Int) + 1).toNat = K + 1 := by omega
        by_cases hxy : y = 255 - x
        · have hx2 : bits .xor .u8 x y = 255 := hxo.2 hxy
          have HX := Lib.hid hxy
          have ba : Below wr.heap.size wr (wr.alloc (.cells #[.int .u8 x] 5)).drew := ((Below.refl _ wr).alloc (Nat.le_refl _) _).drew
          have hr2 : Row (wr.alloc (.cells #[.int .u8 x] 5)).drew (some ⟨wr.heap.size, 0, none⟩) 1 [x] := row_below (w := wr.alloc (.cells #[.int .u8 x] 5)) (Below.refl _ _).drew (row_one wr hz)
          have ho2 := ho.kept ba
          have hb2 := HB.out.trans (ba.mono HB.out.size)
          have hsz := hb2.size
          have HK := Lib.hid hK
          have hk6 : k ≤ 500000 := by omega
          clear hxy hxo hK ba ho
          go_wp2
          go_region
          all_goals
            go_wp2_with (at_builtin; (with_reducible refine wpList_app rfl _ _ rfl w.heap.size u4 k (evL zs k) rfl ho2 _ _ _ [x] rfl hr2 (row_none hr2) (by omega) hsz ?_); intro v' w' h3 h4)
            have hK := HK.out
            rw [HS.out] at h3
            go_roundw
            case rel => exact ⟨k + 1, by omega, by go_num, HU.out HX.out, h3, below_own hb2 ho2 h4 (Nat.le_refl _) hsz⟩
            case measure => simp [intOf]; omega
        · have hx2 : bits .xor .u8 x y ≠ 255 := fun h => hxy (hxo.1 h)
          have hne : (bits .xor .u8 x y != 255) = true := by simpa using hx2
          have hn2 := HN.out hxy
          have HN2 := Lib.hid hn2
          clear hn2 HN HU hxo hxy
          have bd := HB.out.drew
          go_wp2
          go_region
          all_goals
            go_wp2
            go_ret2
            exact ⟨_, [], _, rfl, .inr ⟨HN2.out, rfl, rfl⟩, own_nil _ _, bd⟩
      · have hkm : zs.length / 2 = k := by have := HR.out.1; omega
        go_wp2
        go_ret2
        exact ⟨_, evL zs k, true, rfl, .inl ⟨⟨by rw [HR.out.1]; exact h2, by rw [hkm]; exact hu⟩, by rw [hkm], rfl⟩, by rw [ev_len]; exact ho, hb⟩
  · rw [show n % 2 = 1 by omega] at hmod
    have hmod' : (n : Int).tmod 2 = 1 := hmod
    clear hmod
    go_enter Try.func63, Try.ntmps63
    go_wp2
    go_ret2
    exact ⟨_, [], _, rfl, .inr ⟨odd_no (by rw [HR.out.1]; exact h2), rfl, rfl⟩, own_nil _ _, Below.refl _ _⟩
end Go.Proofs.Ytclephjnokbaoaa
