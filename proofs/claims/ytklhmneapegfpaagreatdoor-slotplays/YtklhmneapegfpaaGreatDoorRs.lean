/-
  The document's own slots: From, MaySlot, WriteSlot, ReadSlot; package slot's Digest; conditions: the area and its flash are there, fewer than a million operations were done, the row does not lie in the flash; the tables of package sha are laid.
-/
import Derived.Test.YtklhmneapegfpaaGreatDoorMSl
import Derived.Test.YtklhmneapegfpaaGreatDoorRbl
import Derived.Test.YtklhmneapegfpaaGreatDoorMAr
import Derived.Test.YtklhmneapegfpaaGreatDoorShaAlive
namespace Go.Proofs.YtklhmneapegfpaaGreatDoor
open Go.RowKit
set_option linter.unusedVariables false
set_option linter.unusedSimpArgs false

theorem i64_zero : I64 0 := ⟨by omega, by omega⟩
theorem row_clearR {w w' : World} {g m k : Nat} {A : Option Addr} {n : Nat} {zs : List Int} (h : Row w A n zs) (o : Only (In3 g m k) w w') (hA : Clear g m k A n) : Row w' A n zs := row_clear h o hA
set_option maxRecDepth 100000 in
set_option maxHeartbeats 2000000 in
theorem rfrom_any (s k n : Int) (w : World) : Calls Tryz.prog 17 #[.int .i64 s, .int .i64 k, .int .i64 n] w fun e w' => e = .returned (.int .i64 (atI s k n)) ∧ w = w' := by
  by_cases c0 : s < 0
  · rw [at_no (fun h => by have := h.1.1; omega)]
    go_enter Tryz.func17, Tryz.ntmps17
    go_wp2
    go_ret
    exact ⟨rfl, rfl⟩
  by_cases c1 : 1 < s
  · rw [at_no (fun h => by have := h.1.2; omega)]
    go_enter Tryz.func17, Tryz.ntmps17
    go_wp2
    go_ret
    exact ⟨rfl, rfl⟩
  by_cases c2 : n < 1
  · rw [at_no (fun h => by have := h.2.1.1; omega)]
    go_enter Tryz.func17, Tryz.ntmps17
    go_wp2
    go_ret
    exact ⟨rfl, rfl⟩
  by_cases c3 : 6 < n
  · rw [at_no (fun h => by have := h.2.1.2; omega)]
    go_enter Tryz.func17, Tryz.ntmps17
    go_wp2
    go_ret
    exact ⟨rfl, rfl⟩
  by_cases c4 : k < 0
  · rw [at_no (fun h => by have := h.2.2.1; omega)]
    go_enter Tryz.func17, Tryz.ntmps17
    go_wp2
    go_ret
    exact ⟨rfl, rfl⟩
  by_cases c5 : n ≤ k
  · rw [at_no (fun h => by have := h.2.2.2; omega)]
    go_enter Tryz.func17, Tryz.ntmps17
    go_wp2
    go_ret
    exact ⟨rfl, rfl⟩
  have hi : inAt s k n := ⟨⟨by omega, by omega⟩, ⟨by omega, by omega⟩, by omega, by omega⟩
  rw [at_yes hi]
  have hm := mul_01 (n := n) (s := s) ⟨by omega, by omega⟩
  have q1 : IntKind.i64.wrap (s * n) = s * n := by rw [IntKind.wrap_i64]; omega
  have q2 : IntKind.i64.wrap (4 + s * n) = 4 + s * n := by rw [IntKind.wrap_i64]; omega
  have q3 : IntKind.i64.wrap (4 + s * n + k) = 4 + s * n + k := by rw [IntKind.wrap_i64]; omega
  clear hm hi
  go_enter Tryz.func17, Tryz.ntmps17
  go_wp2
  go_ret
  exact ⟨rfl, rfl⟩
set_option maxRecDepth 100000 in
set_option maxHeartbeats 2000000 in
theorem rmay_any {T x g m k : Nat} {S : Fs} {P : Pt} (sl q c : Int) (w : World) (ha : Rar w x g P) (hf : Rl w T g m k S) (hfew : Few S) (hops : S.ops ≤ 1000000) (hp : P.Ok S.wear.length) :
    Calls Tryz.prog 12 #[.pointer (some ⟨x, 0, none⟩), .int .i64 sl, .int .i64 q, .int .i64 c] w fun e w' => e = .returned (.bool (freeS S P (atI sl q c))) ∧ Below w.heap.size w w' := by
  have HFr := Lib.hid (rfrom_any sl q c w)
  have h4 := at_cases sl q c
  obtain ⟨s, hs⟩ : ∃ s, atI sl q c = s := ⟨_, rfl⟩
  rw [hs] at HFr h4 ⊢
  clear hs
  by_cases h1 : s = -1
  · subst h1
    rw [free_not]
    clear ha hf hp h4
    go_enter Tryz.func12, Tryz.ntmps12
    go_wp2_with (go_at_call 17; (with_reducible refine HFr.out.mono ?_); rintro e w1 ⟨rfl, rfl⟩)
    go_ret
    exact ⟨rfl, Below.refl _ _⟩
  have i0 : (0 : Int) ≤ s := by omega
  have d0 : decide ((0 : Int) ≤ s) = true := decide_eq_true i0
  have HB := Lib.hid (rablank_any s w ha hf hp)
  have HA := Lib.hid ha
  have HF := Lib.hid hf
  have HP := Lib.hid hp
  clear ha hf hp h4 h1
  unfold freeS
  cases hbl : aBlank S P s with
  | true =>
    rw [hbl] at HB
    rw [Bool.true_or]
    go_enter Tryz.func12, Tryz.ntmps12
    go_wp2_with (first
      | (go_at_call 17; (with_reducible refine HFr.out.mono ?_); rintro e w1 ⟨rfl, rfl⟩)
      | (go_at_call 32; (with_reducible refine HB.out.mono ?_); rintro e w2 ⟨rfl, H2⟩))
    go_ret
    exact ⟨rfl, H2⟩
  | false =>
    rw [hbl] at HB
    rw [Bool.false_or]
    obtain ⟨l, hl⟩ : ∃ l, aLeft S P s = l := ⟨_, rfl⟩
    have HL := Lib.hid (fun W (hW : Below w.heap.size w W) => rleft_any s W (HA.out.kept hW) (HF.out.kept hW) hfew hops HP.out)
    rw [hl] at HL ⊢
    clear hl
    cases hd : decide (0 < l) with
    | true =>
      have hd2 : 0 < l := of_decide_eq_true hd
      go_enter Tryz.func12, Tryz.ntmps12
      go_wp2_with (first
        | (go_at_call 17; (with_reducible refine HFr.out.mono ?_); rintro e w1 ⟨rfl, rfl⟩)
        | (go_at_call 32; (with_reducible refine HB.out.mono ?_); rintro e w2 ⟨rfl, H2⟩)
        | (go_at_call 33; (with_reducible refine (HL.out _ H2).mono ?_); rintro e w3 ⟨rfl, H3⟩))
      go_ret
      exact ⟨rfl, belowThen H2 H3⟩
    | false =>
      have hd2 : ¬ 0 < l := of_decide_eq_false hd
      go_enter Tryz.func12, Tryz.ntmps12
      go_wp2_with (first
        | (go_at_call 17; (with_reducible refine HFr.out.mono ?_); rintro e w1 ⟨rfl, rfl⟩)
        | (go_at_call 32; (with_reducible refine HB.out.mono ?_); rintro e w2 ⟨rfl, H2⟩)
        | (go_at_call 33; (with_reducible refine (HL.out _ H2).mono ?_); rintro e w3 ⟨rfl, H3⟩))
      go_ret
      exact ⟨rfl, belowThen H2 H3⟩
set_option maxRecDepth 100000 in
set_option maxHeartbeats 4000000 in
theorem rwrite_any {T x g m k : Nat} {S : Fs} {P : Pt} (sl q c : Int) (A : Option Addr) (n z : Nat) (zs : List Int) (w : World) (ha : Rar w x g P) (hx : ¬ In3 g m k x) (hf : Rl w T g m k S) (hfew : Few S) (hops : S.ops ≤ 999999) (hp : P.Ok S.wear.length)
    (hr : Row w A n zs) (hn : n ≤ 1000000) (hA : Clear g m k A n) :
    Calls Tryz.prog 15 #[.pointer (some ⟨x, 0, none⟩), .int .i64 sl, .int .i64 q, .int .i64 c, .slice A n z] w fun e w' => e = .returned (.int .i64 (writeW S P sl q c zs).1) ∧ RlTo T g m k (writeW S P sl q c zs).2 w w' := by
  have hlen := hr.1
  have HF := Lib.hid hf
  have HM := Lib.hid (rmay_any sl q c w ha hf hfew (by omega) hp)
  have h4 := at_cases sl q c
  obtain ⟨s, hs⟩ : ∃ s, atI sl q c = s := ⟨_, rfl⟩
  have HFr := Lib.hid (rfrom_any sl q c w)
  rw [hs] at HFr h4 HM
  by_cases h1 : s = -1
  · rw [write_out (.inl (hs.trans h1))]
    subst h1
    clear hs h4 ha hf hr hA hp HM
    go_enter Tryz.func15, Tryz.ntmps15
    go_wp2_with (go_at_call 17; (with_reducible refine HFr.out.mono ?_); rintro e w1 ⟨rfl, rfl⟩)
    go_ret
    exact ⟨rfl, HF.out, Only.refl _ _⟩
  have b1 : ¬ s < 0 := by omega
  have d1 : decide (s < 0) = false := decide_eq_false b1
  by_cases h2 : 320 < n
  · rw [write_out (.inr (by omega))]
    have i2 : (320 : Int) < (n : Int) := by omega
    have d2 : decide ((320 : Int) < (n : Int)) = true := decide_eq_true i2
    clear hs h4 ha hf hr hA hp HM h1
    go_enter Tryz.func15, Tryz.ntmps15
    go_wp2_with (go_at_call 17; (with_reducible refine HFr.out.mono ?_); rintro e w1 ⟨rfl, rfl⟩)
    go_ret
    exact ⟨rfl, HF.out, Only.refl _ _⟩
  have i2 : ¬ (320 : Int) < (n : Int) := by omega
  have d2 : decide ((320 : Int) < (n : Int)) = false := decide_eq_false i2
  cases hfr : freeS S P s with
  | false =>
    rw [write_worn (by rw [hs]; omega) (by rw [hs]; exact hfr)]
    rw [hfr] at HM
    clear hs h4 ha hf hr hA hp h1
    go_enter Tryz.func15, Tryz.ntmps15
    go_wp2_with (first
      | (go_at_call 17; (with_reducible refine HFr.out.mono ?_); rintro e w1 ⟨rfl, rfl⟩)
      | (go_at_call 12; (with_reducible refine HM.out.mono ?_); rintro e w2 ⟨rfl, H2⟩))
    go_ret
    exact ⟨rfl, HF.out.kept H2, Only.of_below H2⟩
  | true =>
    rw [write_does (by rw [hs]; omega) (by rw [hs]; exact hfr), hs]
    rw [hfr] at HM
    have HA := Lib.hid ha
    have HP := Lib.hid hp
    have HR := Lib.hid hr
    have HC := Lib.hid hA
    have HX := Lib.hid hx
    have HBl := Lib.hid (fun W (hW : Below w.heap.size w W) => rablank_any s W (HA.out.kept hW) (HF.out.kept hW) HP.out)
    have HPE := Lib.hid (show P.Ok (aErase S P s).2.wear.length by rw [(aErase_wears S P s).1]; exact hp)
    have hopsE : (aErase S P s).2.ops ≤ 1000000 := by have := (aErase_wears S P s).2; omega
    have hops6 : S.ops ≤ 1000000 := by omega
    clear hs h4 ha hf hr hA hp hx hfr h1
    cases hbl : aBlank S P s with
    | true =>
      rw [hbl] at HBl
      rw [fill_blank hbl]
      by_cases h0 : n = 0
      · subst h0
        rw [lay_none hlen]
        clear hbl
        go_enter Tryz.func15, Tryz.ntmps15
        go_wp2_with (first
          | (go_at_call 17; (with_reducible refine HFr.out.mono ?_); rintro e w1 ⟨rfl, rfl⟩)
          | (go_at_call 12; (with_reducible refine HM.out.mono ?_); rintro e w2 ⟨rfl, H2⟩)
          | (go_at_call 32; (with_reducible refine (HBl.out _ H2).mono ?_); rintro e w3 ⟨rfl, H3⟩))
        go_ret
        exact ⟨rfl, HF.out.kept (belowThen H2 H3), Only.of_below (belowThen H2 H3)⟩
      · have i0 : ¬ (n : Int) = 0 := by omega
        rw [lay_some (by omega)]
        clear hbl
        go_enter Tryz.func15, Tryz.ntmps15
        go_wp2_with (first
          | (go_at_call 17; (with_reducible refine HFr.out.mono ?_); rintro e w1 ⟨rfl, rfl⟩)
          | (go_at_call 12; (with_reducible refine HM.out.mono ?_); rintro e w2 ⟨rfl, H2⟩)
          | (go_at_call 32; (with_reducible refine (HBl.out _ H2).mono ?_); rintro e w3 ⟨rfl, H3⟩)
          | (go_at_call 36; (with_reducible refine (raprogram_any s 0 A n z zs _ (HA.out.kept (belowThen H2 H3)) (HF.out.kept (belowThen H2 H3)) HP.out i64_zero (row_below (belowThen H2 H3) HR.out) hn HC.out hops6).mono ?_); rintro e w5 ⟨rfl, H5⟩))
        go_ret
        exact ⟨rfl, H5.1, (Only.of_below (belowThen H2 H3)).trans H5.2⟩
    | false =>
      rw [hbl] at HBl
      have HE := Lib.hid (fun W (hW : Below w.heap.size w W) => raerase_any s W (HA.out.kept hW) (HF.out.kept hW) hfew (by omega) HP.out)
      by_cases he : (aErase S P s).1 = 0
      · rw [fill_two hbl he]
        have HE0 := Lib.hid he
        rw [he] at HE
        clear hbl he
        by_cases h0 : n = 0
        · subst h0
          rw [lay_none hlen]
          go_enter Tryz.func15, Tryz.ntmps15
          go_wp2_with (first
            | (go_at_call 17; (with_reducible refine HFr.out.mono ?_); rintro e w1 ⟨rfl, rfl⟩)
            | (go_at_call 12; (with_reducible refine HM.out.mono ?_); rintro e w2 ⟨rfl, H2⟩)
            | (go_at_call 32; (with_reducible refine (HBl.out _ H2).mono ?_); rintro e w3 ⟨rfl, H3⟩)
            | (go_at_call 35; (with_reducible refine (HE.out _ (belowThen H2 H3)).mono ?_); rintro e w4 ⟨rfl, H4⟩))
          go_ret
          exact ⟨rfl, H4.1, (Only.of_below (belowThen H2 H3)).trans H4.2⟩
        · have i0 : ¬ (n : Int) = 0 := by omega
          rw [lay_some (by omega)]
          go_enter Tryz.func15, Tryz.ntmps15
          go_wp2_with (first
            | (go_at_call 17; (with_reducible refine HFr.out.mono ?_); rintro e w1 ⟨rfl, rfl⟩)
            | (go_at_call 12; (with_reducible refine HM.out.mono ?_); rintro e w2 ⟨rfl, H2⟩)
            | (go_at_call 32; (with_reducible refine (HBl.out _ H2).mono ?_); rintro e w3 ⟨rfl, H3⟩)
            | (go_at_call 35; (with_reducible refine (HE.out _ (belowThen H2 H3)).mono ?_); rintro e w4 ⟨rfl, H4⟩)
            | (go_at_call 36; have HQ := raprogram_any s 0 A n z zs _ (Has.only (HA.out.kept (belowThen H2 H3)) H4.2 HX.out) H4.1 HPE.out i64_zero (row_clearR (row_below (belowThen H2 H3) HR.out) H4.2 HC.out) hn HC.out hopsE; (with_reducible refine HQ.mono ?_); rintro e w5 ⟨rfl, H5⟩))
          go_ret
          exact ⟨rfl, H5.1, ((Only.of_below (belowThen H2 H3)).trans H4.2).trans H5.2⟩
      · rw [fill_err hbl he]
        clear hbl
        go_enter Tryz.func15, Tryz.ntmps15
        go_wp2_with (first
          | (go_at_call 17; (with_reducible refine HFr.out.mono ?_); rintro e w1 ⟨rfl, rfl⟩)
          | (go_at_call 12; (with_reducible refine HM.out.mono ?_); rintro e w2 ⟨rfl, H2⟩)
          | (go_at_call 32; (with_reducible refine (HBl.out _ H2).mono ?_); rintro e w3 ⟨rfl, H3⟩)
          | (go_at_call 35; (with_reducible refine (HE.out _ (belowThen H2 H3)).mono ?_); rintro e w4 ⟨rfl, H4⟩))
        go_ret
        exact ⟨rfl, H4.1, (Only.of_below (belowThen H2 H3)).trans H4.2⟩
end Go.Proofs.YtklhmneapegfpaaGreatDoor
