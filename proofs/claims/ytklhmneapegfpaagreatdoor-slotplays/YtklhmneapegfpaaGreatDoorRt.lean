/-
  The document's ReadSlot, and package slot's Digest; conditions: the area and its flash are there; the tables of package sha are laid.
-/
import Derived.Test.YtklhmneapegfpaaGreatDoorRs
namespace Go.Proofs.YtklhmneapegfpaaGreatDoor
open Go.RowKit
set_option linter.unusedVariables false
set_option linter.unusedSimpArgs false

/-- So many chunks are read. -/
def ImagedR (w : World) (S : Fs) (P : Pt) (sl n z : Int) (C : Nat) (v9 v10 : Value) (wr : World) : Prop :=
  ∃ (k L : Nat), v10 = .int .i64 (k : Int) ∧ k ≤ C ∧ Own wr w.heap.size v9 L (img S P sl n z k) ∧ (L : Int) = min (320 * (k : Int)) (max z 0) ∧ (∀ j : Nat, j < k → 320 * (j : Int) < z ∧ P.has (atI sl (j : Int) n)) ∧ Below w.heap.size w wr
set_option maxRecDepth 100000 in
set_option maxHeartbeats 4000000 in
theorem rimage_any {T x g m k : Nat} {S : Fs} {P : Pt} (sl n z : Int) (w : World) (ha : Rar w x g P) (hf : Rl w T g m k S) (hp : P.Ok S.wear.length) (hi : I64 z) :
    Calls Tryz.prog 20 #[.pointer (some ⟨x, 0, none⟩), .int .i64 sl, .int .i64 n, .int .i64 z] w (GivesO (imgL S P sl n z) w) := by
  have HFr := Lib.hid (rfrom_any sl 0 n w)
  by_cases h1 : z < 1
  · rw [img_no (fun h => by have := h.1; omega)]
    have d1 : decide (z < 1) = true := decide_eq_true h1
    clear ha hf hp hi
    go_enter Tryz.func20, Tryz.ntmps20
    go_wp2
    go_ret
    exact ⟨_, rfl, own_nil _ _, Below.refl _ _⟩
  have d1 : decide (z < 1) = false := decide_eq_false h1
  by_cases h2 : inAt sl 0 n
  · have h3 := at_is h2
    obtain ⟨s, hs⟩ : ∃ s, atI sl 0 n = s := ⟨_, rfl⟩
    rw [hs] at HFr h3
    have n6 := h2.2.1
    have q0 : IntKind.i64.wrap (n * 320) = n * 320 := by rw [IntKind.wrap_i64]; omega
    have b1 : ¬ s < 0 := by omega
    have d2 : decide (s < 0) = false := decide_eq_false b1
    by_cases h4 : n * 320 < z
    · rw [img_no (fun h => by have := h.2.2.1; omega)]
      have d3 : decide (n * 320 < z) = true := decide_eq_true h4
      clear ha hf hp hi h3 hs h2 n6
      go_enter Tryz.func20, Tryz.ntmps20
      go_wp2_with (go_at_call 17; (with_reducible refine HFr.out.mono ?_); rintro e w1 ⟨rfl, rfl⟩)
      go_ret
      exact ⟨_, rfl, own_nil _ _, Below.refl _ _⟩
    have d3 : decide (n * 320 < z) = false := decide_eq_false h4
    obtain ⟨C, hC⟩ : ∃ C : Nat, (z - 1) / 320 + 1 = (C : Int) := ⟨((z - 1) / 320 + 1).toNat, by omega⟩
    have hz1 : 1 ≤ z ∧ z ≤ 100000 := by omega
    have HCh := Lib.hid (fun W => rchunks_any hz1 hC W)
    have HLe := Lib.hid (fun (k L : Int) (hk : 0 ≤ k ∧ k < (C : Int)) (hL : min (z - 320 * k) 320 = L) W => rclen_any hz1 hC hk hL W)
    have hC6 : C ≤ 6 := by omega
    have hCz : z ≤ 320 * (C : Int) ∧ 320 * (C : Int) < z + 320 := by omega
    have HA := Lib.hid ha
    have HF := Lib.hid hf
    have HP := Lib.hid hp
    have HOK := Lib.hid hf.ok
    clear ha hf hp hi h3 hs h2 hC h4
    go_enter Tryz.func20, Tryz.ntmps20
    go_wp2_with (go_at_call 17; (with_reducible refine HFr.out.mono ?_); rintro e w1 ⟨rfl, rfl⟩)
    have hst : ImagedR w S P sl n z C (.slice none 0 0) (.int .i64 0) w := ⟨0, 0, rfl, by omega, own_nil w _, by omega, fun j hj => by omega, Below.refl _ w⟩
    go_loopw [9, 10] (fun v9 v10 wr => ImagedR w S P sl n z C v9 v10 wr) (fun _ v10 _ => C - (intOf v10).toNat)
    case atStart => exact hst
    case round =>
      clear hst HFr
      obtain ⟨q, L, rfl, hqC, ho, hL, hall, hB⟩ := hrel
      obtain ⟨A, c, rfl, hc, hr, _⟩ := ho.form
      have HO := Lib.hid ho
      have HB := Lib.hid hB
      have HALL := Lib.hid hall
      clear ho hr hB hall
      by_cases hlt : q < C
      · have i1 : (q : Int) < (C : Int) := by omega
        have q2 : IntKind.i64.wrap ((q : Int) + 1) = ((q + 1 : Nat) : Int) := by rw [IntKind.wrap_i64]; omega
        have hlq : 320 * (q : Int) < z := by omega
        obtain ⟨u, hu⟩ : ∃ u : Nat, min (z - 320 * (q : Int)) 320 = (u : Int) := ⟨(min (z - 320 * (q : Int)) 320).toNat, by omega⟩
        have hu1 : 1 ≤ u ∧ u ≤ 320 := by omega
        have HLn := Lib.hid (fun W => HLe.out (q : Int) (u : Int) ⟨by omega, i1⟩ hu W)
        have hFr := Lib.hid (fun W => rfrom_any sl (q : Int) n W)
        have hRd := Lib.hid (raread_any (atI sl (q : Int) n) 0 (u : Int) wr (HA.out.kept HB.out) (HF.out.kept HB.out) HP.out ⟨by omega, by omega⟩ ⟨by omega, by omega⟩)
        have HU := Lib.hid hu
        have hLq : (L : Int) = 320 * (q : Int) := by omega
        have HLQ := Lib.hid hLq
        have hL3 : L + u ≤ 3000 := by omega
        clear hu hL hLq
        by_cases hh : P.has (atI sl (q : Int) n)
        · have hlen : (aRead S P (atI sl (q : Int) n) 0 (u : Int)).length = u := by rw [aread_len HOK.out HP.out ⟨hh, by omega, by omega, by omega⟩]; omega
          have HE1 := Lib.hid (show img S P sl n z (q + 1) = img S P sl n z q ++ aRead S P (atI sl (q : Int) n) 0 (u : Int) by
            show img S P sl n z q ++ aRead S P (atI sl (q : Int) n) 0 (min (z - 320 * (q : Int)) 320) = _
            rw [HU.out])
          have i0 : ¬ (u : Int) = 0 := by omega
          have b0 : ((u : Int) == 0) = false := by simpa using i0
          go_wp2_with (first
            | (go_at_call 38; (with_reducible refine (HCh.out _).mono ?_); rintro e w1 ⟨rfl, rfl⟩)
            | (go_at_call 17; (with_reducible refine (hFr.out _).mono ?_); rintro e w1 ⟨rfl, rfl⟩)
            | (go_at_call 40; (with_reducible refine (HLn.out _).mono ?_); rintro e w1 ⟨rfl, rfl⟩)
            | (go_at_call 39; (with_reducible refine hRd.out.mono ?_); rintro e w2 ⟨A2, c2, rfl, hc2, hr2, _, b2⟩; rw [hlen] at hr2 hc2 ⊢; have HO2 := Lib.hid (HO.out.kept b2); have HB2 := Lib.hid (HB.out.trans (b2.mono HB.out.size)); have HR2 := Lib.hid hr2; clear hr2 b2 hRd hFr)
            | (at_builtin; refine wpList_app rfl _ _ rfl w.heap.size _ _ _ rfl HO2.out _ _ _ _ rfl HR2.out (row_none HR2.out) (by omega) HB2.out.size ?_; intro v3 w3 o3 g3; have HO3 := Lib.hid o3; have HB3 := Lib.hid (below_own HB2.out HO2.out g3 (Nat.le_refl _) HB2.out.size); clear o3 g3))
          go_roundw
          case rel => exact ⟨q + 1, L + u, by simp, by omega, by rw [HE1.out]; exact HO3.out, by have := HU.out; have := HLQ.out; omega, fun j hj => by
              by_cases e : j = q
              · subst e; exact ⟨by omega, hh⟩
              · exact HALL.out j (by omega), HB3.out⟩
          case measure => simp only [intOf]; omega
        · have hnil : aRead S P (atI sl (q : Int) n) 0 (u : Int) = [] := aread_no hh
          have HE1 := Lib.hid (show imgL S P sl n z = [] from img_no (img_out (by omega) hh))
          rw [hnil] at hRd
          go_wp2_with (first
            | (go_at_call 38; (with_reducible refine (HCh.out _).mono ?_); rintro e w1 ⟨rfl, rfl⟩)
            | (go_at_call 17; (with_reducible refine (hFr.out _).mono ?_); rintro e w1 ⟨rfl, rfl⟩)
            | (go_at_call 40; (with_reducible refine (HLn.out _).mono ?_); rintro e w1 ⟨rfl, rfl⟩)
            | (go_at_call 39; (with_reducible refine hRd.out.mono ?_); rintro e w2 ⟨A2, c2, rfl, hc2, hr2, _, b2⟩; have HB2 := Lib.hid (HB.out.trans (b2.mono HB.out.size)); clear hr2 b2 hRd hFr))
          go_ret
          rw [HE1.out]
          exact ⟨_, rfl, own_nil _ _, HB2.out⟩
      · obtain rfl : q = C := by omega
        have i1 : ¬ (q : Int) < (q : Int) := by omega
        have HE1 := Lib.hid (img_end (S := S) (show ¬ 320 * (q : Int) < z by omega) HALL.out)
        have hLL := Lib.hid hL
        clear hL
        go_wp2_with (go_at_call 38; (with_reducible refine (HCh.out _).mono ?_); rintro e w1 ⟨rfl, rfl⟩)
        go_ret
        rw [HE1.out]
        exact ⟨_, rfl, by rw [HO.out.len]; exact HO.out, HB.out⟩
  · rw [img_no (fun h => h2 h.2.1)]
    have hs : atI sl 0 n = -1 := at_no h2
    rw [hs] at HFr
    clear ha hf hp hi h2 hs
    go_enter Tryz.func20, Tryz.ntmps20
    go_wp2_with (go_at_call 17; (with_reducible refine HFr.out.mono ?_); rintro e w1 ⟨rfl, rfl⟩)
    go_ret
    exact ⟨_, rfl, own_nil _ _, Below.refl _ _⟩
set_option maxRecDepth 100000 in
set_option maxHeartbeats 2000000 in
theorem sdigest_any {T x g m k : Nat} {S : Fs} {P : Pt} (sl n z : Int) (w : World) (ha : Ar w x g P) (hf : Fl w T g m k S) (hp : P.Ok S.wear.length) (hi : I64 z) (ht : Sha.Tabs w) :
    Calls Tryz.prog 22 #[.pointer (some ⟨x, 0, none⟩), .int .i64 sl, .int .i64 n, .int .i64 z] w fun e w' => e = .returned (.agg (Sha.nums (Sha.shaI (imgL S P sl n z))).toArray) ∧ Below w.heap.size w w' := by
  have hz2 := Sha.zero24_run
  have hba : Below w.heap.size w (w.alloc (.cells Sha.zero24 47)) := (Below.refl _ _).alloc (Nat.le_refl _) _
  have hout := Lib.hid (has_new w 47 Sha.zero24)
  have HI := Lib.hid (image_any sl n z _ (ha.kept hba) (hf.kept hba) hp hi)
  have HL := Lib.hid (imgL_len hf.ok hp sl n z)
  have HT := Lib.hid ht
  have HBA := Lib.hid hba
  have hsl := Lib.hid (show (Sha.shaI (imgL S P sl n z)).length = 32 from rfl)
  obtain ⟨zs, hzs⟩ : ∃ zs, imgL S P sl n z = zs := ⟨_, rfl⟩
  rw [hzs] at HI HL hsl ⊢
  clear ha hf hp hi ht hba hzs
  go_enter Tryz.func22, Tryz.ntmps22
  go_wp2_with fail
  refine HI.out.mono ?_
  rintro e w1 ⟨v1, rfl, o1, b1⟩
  have HB1 := Lib.hid (HBA.out.trans (b1.mono HBA.out.size))
  have HO1 := Lib.hid (hout.out.kept b1)
  obtain ⟨A1, c1, rfl, hc1, hr1, _⟩ := o1.form
  have HS := Lib.hid (Sha.shaSum_any A1 zs.length c1 zs w1 (row_sha hr1) hc1 (HT.out.kept HB1.out) (by have := HL.out; omega))
  clear o1 b1 hr1 HI
  go_wp2_with fail
  refine HS.out.mono ?_
  rintro e w2 ⟨rfl, b2⟩
  have hb2 := HB1.out.trans (b2.mono HB1.out.size)
  have hout2 := HO1.out.kept b2
  go_wp2_with (refine wpList_store_row rfl 47 _ _ rfl w.heap.size (Sha.nums (Sha.shaI zs)).toArray rfl rfl 47 _ hout2 (Sha.size24 hsl.out) (by rw [Sha.zero24_size, List.size_toArray, Sha.nums_len, hsl.out]) (Sha.nums_all _) ?_)
  exact bodyPost_ret (results_cell_row rfl _ _ w.heap.size 47 (Sha.nums (Sha.shaI zs)).toArray (0, 0) _ rfl (setRow_heap _ _ _ _ _ _ hout2) Tryz.underlying47 rfl (Sha.size24 hsl.out)) rfl ⟨rfl, below_setRow hb2 (Nat.le_refl _) _⟩
end Go.Proofs.YtklhmneapegfpaaGreatDoor
