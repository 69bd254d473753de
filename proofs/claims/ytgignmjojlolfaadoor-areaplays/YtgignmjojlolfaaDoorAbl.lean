/-
  The program's Blank and Digest of an area; conditions: the area, its flash and the tables of the hash are there.
-/
import Derived.Test.YtgignmjojlolfaaDoorDig
import Derived.Test.YtgignmjojlolfaaDoorRown
namespace Go.Proofs.YtgignmjojlolfaaDoor
open Go.RowKit
set_option linter.unusedVariables false
set_option linter.unusedSimpArgs false

set_option maxRecDepth 100000 in
set_option maxHeartbeats 1000000 in
theorem ablank_any {T x g m k : Nat} {S : Fs} {P : Pt} (s : Int) (w : World) (ha : Ar w x g P) (hf : Fl w T g m k S) (hp : P.Ok S.wear.length) :
    Calls Tryd.prog 25 #[.pointer (some ⟨x, 0, none⟩), .int .i64 s] w fun e w' => e = .returned (.bool (aBlank S P s)) ∧ Below w.heap.size w w' := by
  have hh := Lib.hid (handed_any w ha)
  have hW := Lib.hid (whose_any g P w)
  have HA := Lib.hid ha
  have HF := Lib.hid hf
  clear ha hf
  unfold aBlank
  by_cases hs : P.has s
  · obtain ⟨q, rfl, hq⟩ := Pt.has_nat hs
    have hc : 0 < P.cnt := by omega
    rw [whoV_yes hc] at hW
    rw [if_pos hs]
    have hd : decide (0 ≤ (q : Int) ∧ (q : Int) < (P.cnt : Int)) = true := by simpa using hq
    have h1 := hp.in'
    have h2 := hp.few
    have q1 : IntKind.i64.wrap ((P.fst : Int) + (q : Int)) = (P.fst : Int) + (q : Int) := by rw [IntKind.wrap_i64]; omega
    clear hs
    unfold fsCells at hW
    go_enter Tryd.func25, Tryd.ntmps25
    go_wp2_with (first
      | (go_at_call 33; (with_reducible refine hh.out.mono ?_); rintro e w0 ⟨rfl, rfl⟩)
      | (go_at_call 34; (with_reducible refine hW.out.mono ?_); rintro e w1 ⟨rfl, H1⟩)
      | (go_at_call 40; refine (ahas_any _ _ _ _ _ _).mono ?_; rintro e w2 ⟨rfl, H2⟩; have hx := (has_new w1 69 (fsCells (.pointer (some ⟨g, 0, none⟩)) P.fst P.cnt P.bud)).kept H2; have HX := Lib.hid hx; have b2 := Lib.hid (behind H1 H2); obtain ⟨k0, k1, k2, k3⟩ := fs_cells hx; clear hx; rw [hd])
      | (go_at_call 48; refine (blank_any ((P.fst : Int) + (q : Int)) _ (HF.out.kept b2.out)).mono ?_; rintro e w3 ⟨rfl, rfl⟩))
    go_ret
    exact ⟨rfl, b2.out⟩
  · rw [if_neg hs]
    obtain ⟨F, f, b, hwho⟩ := who_is g P
    rw [hwho] at hW
    clear hwho
    have hd : decide (0 ≤ s ∧ s < (P.cnt : Int)) = false := by simp only [decide_eq_false_iff_not]; exact hs
    unfold fsCells at hW
    go_enter Tryd.func25, Tryd.ntmps25
    go_wp2_with (first
      | (go_at_call 33; (with_reducible refine hh.out.mono ?_); rintro e w0 ⟨rfl, rfl⟩)
      | (go_at_call 34; (with_reducible refine hW.out.mono ?_); rintro e w1 ⟨rfl, H1⟩)
      | (go_at_call 40; refine (ahas_any _ _ _ _ _ _).mono ?_; rintro e w2 ⟨rfl, H2⟩; skip; rw [hd]))
    go_ret
    exact ⟨rfl, behind H1 H2⟩
/-- So many wears lie behind the bytes. -/
def Digs (w : World) (S : Fs) (P : Pt) (rb pb base : Nat) (F : Value) (v4 v19 : Value) (wr : World) : Prop :=
  ∃ (s : Nat) (v : Value), v = v4 ∧ v19 = .int .i64 (s : Int) ∧ s ≤ P.cnt ∧ Own wr base v (P.cnt * 320 + 4 * s) (dSec S P P.cnt ++ dWear S P s) ∧ Has wr pb 69 (fsCells F P.fst P.cnt P.bud) ∧ Has wr rb 49 Sha.zero24 ∧ Below w.heap.size w wr ∧ base ≤ wr.heap.size
theorem Has.grew {w w' : World} {b N : Nat} {t : TypeId} {cs : Array Value} {r : Option Nat} (h : Has w b t cs) (hg : w.grownBy w' r) (hr : ∀ k, r = some k → N ≤ k) (hb : b < N) : Has w' b t cs :=
  (hg.block b h.size (fun e => by have := hr b e.symm; omega)).trans h
set_option maxRecDepth 100000 in
set_option maxHeartbeats 2000000 in
theorem adigest_any {T x g m k : Nat} {S : Fs} {P : Pt} (w : World) (ha : Ar w x g P) (hf : Fl w T g m k S) (hp : P.Ok S.wear.length) (hfew : Few S) (hops : S.ops ≤ 1000000) (ht : Sha.Tabs w) :
    Calls Tryd.prog 27 #[.pointer (some ⟨x, 0, none⟩)] w fun e w' => e = .returned (.agg (Sha.nums (aDig S P)).toArray) ∧ Below w.heap.size w w' := by
  have hz := Sha.zero24_run
  have hba : Below w.heap.size w (w.alloc (.cells Sha.zero24 49)) := (Below.refl _ _).alloc (Nat.le_refl _) _
  have hh := Lib.hid (handed_any _ (ha.kept hba))
  have hW := Lib.hid (whose_any g P (w.alloc (.cells Sha.zero24 49)))
  have hout := Lib.hid (has_new w 49 Sha.zero24)
  have HF := Lib.hid hf
  have HT := Lib.hid ht
  have HBA := Lib.hid hba
  have hok := hf.ok
  have hl := hok.len
  have h1 := hp.in'
  have h2 := hp.few
  have HDL := Lib.hid (dSec_len hok hp (Nat.le_refl P.cnt))
  have HDW := Lib.hid (dWear_len S P)
  have HSL := Lib.hid (show (aDig S P).length = 32 from rfl)
  clear ha hf ht hba
  by_cases hc : 0 < P.cnt
  · rw [whoV_yes hc] at hW
    have HRO := Lib.hid (fun W hW => read_own (P.fst * 320) (P.cnt * 320) W (by omega) (by omega) (HF.out.kept (w' := W) hW))
    rw [← dSec_all hok hp hc] at HRO
    have HPL := Lib.hid (fun W => place_any (.pointer (some ⟨g, 0, none⟩)) P.fst P.cnt P.bud 0 0 W ⟨by omega, by omega⟩ ⟨by omega, by omega⟩ ⟨by omega, by omega⟩)
    have ep : ((P.fst : Int) + 0) * 320 + 0 = ((P.fst * 320 : Nat) : Int) := by omega
    rw [ep] at HPL
    have em : IntKind.i64.wrap ((P.cnt : Int) * 320) = ((P.cnt * 320 : Nat) : Int) := by rw [IntKind.wrap_i64]; omega
    have HEM := Lib.hid em
    clear ep em
    unfold fsCells at hW
    go_enter Tryd.func27, Tryd.ntmps27
    go_wp2_with (first
      | (go_at_call 33; (with_reducible refine hh.out.mono ?_); rintro e w0 ⟨rfl, rfl⟩)
      | (go_at_call 34; (with_reducible refine hW.out.mono ?_); rintro e w1 ⟨rfl, H1⟩))
    have b2 := Lib.hid (show Below w.heap.size w (w1.alloc (.cells (fsCells (.pointer (some ⟨g, 0, none⟩)) P.fst P.cnt P.bud) 69)) from (HBA.out.trans (H1.mono HBA.out.size)).alloc (HBA.out.trans (H1.mono HBA.out.size)).size _)
    have HO := Lib.hid (show Has (w1.alloc (.cells (fsCells (.pointer (some ⟨g, 0, none⟩)) P.fst P.cnt P.bud) 69)) w.heap.size 49 Sha.zero24 from (hout.out.kept H1).more _)
    have HS6 := Lib.hid (show Has (w1.alloc (.cells (fsCells (.pointer (some ⟨g, 0, none⟩)) P.fst P.cnt P.bud) 69)) w1.heap.size 69 (fsCells (.pointer (some ⟨g, 0, none⟩)) P.fst P.cnt P.bud) from has_new w1 69 _)
    have hlt : w.heap.size < w1.heap.size := by have := H1.size; simp at this; omega
    unfold fsCells at b2 HO
    have HS6' := HS6.out
    unfold fsCells at HS6'
    generalize hpb : w1.heap.size = pb at *
    generalize hwc : w1.alloc (.cells #[.pointer (some ⟨g, 0, none⟩), .int .i64 (P.fst : Int), .int .i64 (P.cnt : Int), .int .i64 (P.bud : Int)] 69) = wc at *
    clear hh hW H1 hwc hpb
    have HS7 := Lib.hid (show Has wc.drew pb 69 (fsCells (.pointer (some ⟨g, 0, none⟩)) P.fst P.cnt P.bud) from HS6')
    have HO7 := Lib.hid (show Has wc.drew w.heap.size 49 Sha.zero24 from HO.out)
    have b7 := Lib.hid b2.out.drew
    clear HS6 HS6' HO b2
    refine wp_region_held_drew (S := fun W => Has W pb 69 (fsCells (.pointer (some ⟨g, 0, none⟩)) P.fst P.cnt P.bud)) (by kernel_rfl) HS7.out ?_
    intro _
    refine wpAnyH_take (i := 0) (v := .pointer (some ⟨pb, 0, none⟩)) rfl (by kernel_rfl) (by kernel_rfl) (by kernel_rfl) (fun _ _ _ h => h) (Or.inl ⟨by rfl, (fun W _ => by go_simp)⟩) HS7.out ?_
    simp only [List.getElem_toArray, List.getElem_cons_succ, List.getElem_cons_zero, Act.put, List.setIfInBounds_toArray, List.set_cons_zero, List.set_cons_succ]
    refine wpAnyH_take (i := 1) (v := .pointer (some ⟨g, 0, none⟩)) rfl (by kernel_rfl) (by kernel_rfl) (by kernel_rfl) (fun _ _ _ h => h) (Or.inl ⟨by rfl, (fun W hW => by obtain ⟨q0, q1, q2, q3⟩ := fs_cells hW; go_simp)⟩) HS7.out ?_
    simp only [List.getElem_toArray, List.getElem_cons_succ, List.getElem_cons_zero, Act.put, List.setIfInBounds_toArray, List.set_cons_zero, List.set_cons_succ]
    refine wpAnyH_take (i := 2) (v := .agg #[.pointer (some ⟨g, 0, none⟩), .int .i64 (P.fst : Int), .int .i64 (P.cnt : Int), .int .i64 (P.bud : Int)]) rfl (by kernel_rfl) (by kernel_rfl) (by kernel_rfl) (fun _ _ _ h => h) (Or.inl ⟨by rfl, (fun W hW => by obtain ⟨q0, q1, q2, q3⟩ := fs_cells hW; go_simp)⟩) HS7.out ?_
    simp only [List.getElem_toArray, List.getElem_cons_succ, List.getElem_cons_zero, Act.put, List.setIfInBounds_toArray, List.set_cons_zero, List.set_cons_succ]
    refine wpAnyH_take (i := 4) (v := .pointer (some ⟨pb, 2, none⟩)) rfl (by kernel_rfl) (by kernel_rfl) (by kernel_rfl) (fun _ _ _ h => h) (Or.inl ⟨by rfl, (fun W _ => by go_simp)⟩) HS7.out ?_
    simp only [List.getElem_toArray, List.getElem_cons_succ, List.getElem_cons_zero, Act.put, List.setIfInBounds_toArray, List.set_cons_zero, List.set_cons_succ]
    refine wpAnyH_take (i := 5) (v := .int .i64 (P.cnt : Int)) rfl (by kernel_rfl) (by kernel_rfl) (by kernel_rfl) (fun _ _ _ h => h) (Or.inl ⟨by rfl, (fun W hW => by obtain ⟨q0, q1, q2, q3⟩ := fs_cells hW; go_simp)⟩) HS7.out ?_
    simp only [List.getElem_toArray, List.getElem_cons_succ, List.getElem_cons_zero, Act.put, List.setIfInBounds_toArray, List.set_cons_zero, List.set_cons_succ]
    refine wpAnyH_take (i := 6) (v := .int .i64 ((P.cnt * 320 : Nat) : Int)) rfl (by kernel_rfl) (by kernel_rfl) (by kernel_rfl) (fun _ _ _ h => h) (Or.inl ⟨by rfl, (fun W hW => by have q9 := HEM.out; go_simp)⟩) HS7.out ?_
    simp only [List.getElem_toArray, List.getElem_cons_succ, List.getElem_cons_zero, Act.put, List.setIfInBounds_toArray, List.set_cons_zero, List.set_cons_succ]
    refine wpAnyH_ready (rs := [3]) (by kernel_rfl) (by simp) ?_
    refine AllReadyH.cons rfl (fun K hK => ?_) AllReadyH.nil
    go_simp
    refine (HPL.out _).mono ?_
    rintro e w3 ⟨rfl, H3⟩
    have HS8 := Lib.hid (HS7.out.kept H3)
    have HO8 := Lib.hid (HO7.out.kept H3)
    have b3 := Lib.hid (b7.out.trans (H3.mono b7.out.size))
    refine hK.out _ _ HS8.out (fun _ => ?_)
    clear hK K
    refine wpAnyH_ready (rs := [7]) (by kernel_rfl) (by simp) ?_
    refine AllReadyH.cons rfl (fun K hK => ?_) AllReadyH.nil
    go_simp
    refine (HRO.out w3 b3.out).mono ?_
    rintro e w4 ⟨v4, rfl, ho4, b4⟩
    have HS9 := Lib.hid (HS8.out.kept b4)
    have HO9 := Lib.hid (HO8.out.kept b4)
    have B9 := Lib.hid (b3.out.trans (b4.mono b3.out.size))
    refine hK.out _ _ HS9.out (fun _ => ?_)
    clear hK K
    refine wpAnyH_take (i := 8) (v := v4) rfl (by kernel_rfl) (by kernel_rfl) (by kernel_rfl) (fun _ _ _ h => h) (Or.inl ⟨by rfl, (fun W _ => by go_simp)⟩) HS9.out ?_
    simp only [List.getElem_toArray, List.getElem_cons_succ, List.getElem_cons_zero, Act.put, List.setIfInBounds_toArray, List.set_cons_zero, List.set_cons_succ]
    refine wpAnyH_done (by kernel_rfl) ?_ _
    have hpb3 : pb < w3.heap.size := HS8.out.size
    rw [HDL.out] at ho4
    have hst : Digs w S P w.heap.size pb w3.heap.size (.pointer (some ⟨g, 0, none⟩)) v4 (.int .i64 0) w4 :=
      ⟨0, v4, rfl, rfl, Nat.zero_le _, by simpa [dWear] using ho4, HS9.out, HO9.out, B9.out, b4.size⟩
    obtain ⟨k0, k1, k2, k3⟩ := fs_cells HS9.out
    generalize hbs : w3.heap.size = base at *
    clear ho4 b4 HS7 HS8 HS9 HO7 HO8 HO9 B9 b3 b7 HRO HPL H3 hbs
    go_wp2_with fail
    go_loopw [4, 19] (fun v4 v19 wr => Digs w S P w.heap.size pb base (.pointer (some ⟨g, 0, none⟩)) v4 v19 wr) (fun _ v19 _ => P.cnt - (intOf v19).toNat)
    case atStart => exact hst
    case round =>
      clear hst k0 k1 k2 k3
      obtain ⟨s, v, rfl, rfl, hs, ho, hP, hO, hb, hbs⟩ := hrel
      obtain ⟨Wz, rfl⟩ : ∃ x, x = wr := ⟨_, rfl⟩
      obtain ⟨k0, k1, k2, k3⟩ := fs_cells hP
      have s0 : (0 : Int) ≤ (s : Int) := by omega
      by_cases hlt : s < P.cnt
      · have s1 : (s : Int) < (P.cnt : Int) := by omega
        obtain ⟨A, c, rfl, hcap, hr, hA⟩ := ho.form
        clear hcap hr hA
        have q1 : IntKind.i64.wrap ((P.fst : Int) + (s : Int)) = (P.fst : Int) + (s : Int) := by rw [IntKind.wrap_i64]; omega
        have HWE := Lib.hid (wear_any ((P.fst : Int) + (s : Int)) Wz (HF.out.kept hb))
        have hword := wear_word hfew hops ((P.fst : Int) + (s : Int))
        have HDN := Lib.hid (show dWear S P (s + 1) = dWear S P s ++ Sha.bytes4 (wearAt S ((P.fst : Int) + (s : Int))) from rfl)
        generalize wearAt S ((P.fst : Int) + (s : Int)) = wv at *
        have q2 : IntKind.u32.wrap wv = wv := by rw [IntKind.wrap_u32]; omega
        have HBY := Lib.hid (Sha.bytes_any wv Wz hword)
        have hrw := Lib.hid (row_text Wz (Sha.bytes4 wv) (Sha.bytes4_bd hword) 4 rfl (0, 0))
        have hal : Below Wz.heap.size Wz (Wz.alloc (.cells ((Sha.bytes4 wv).map (Value.int .u8)).toArray 5)) := (Below.refl _ Wz).alloc (Nat.le_refl _) _
        have HOW := Lib.hid (ho.kept hal)
        have HPK := Lib.hid (hP.kept hal)
        have HOK := Lib.hid (hO.kept hal)
        have HBK := Lib.hid (hb.trans (hal.mono hb.size))
        have hbs2 : base ≤ (Wz.alloc (.cells ((Sha.bytes4 wv).map (Value.int .u8)).toArray 5)).heap.size := Nat.le_trans hbs hal.size
        clear ho hP hO hb hal
        go_wp2_with (first
          | (go_at_call 51; (with_reducible refine HWE.out.mono ?_); rintro e w8 ⟨rfl, rfl⟩)
          | (go_at_call 50; (with_reducible refine HBY.out.mono ?_); rintro e w8 ⟨rfl, rfl⟩)
          | (at_builtin; refine wpList_app rfl _ _ rfl base _ _ _ rfl HOW.out _ _ _ _ rfl hrw.out (fun h => by cases h) (by omega) hbs2 ?_; intro v6 w6 ho6 hg6))
        have hge := HOW.out.block
        have HP6 := Lib.hid (HPK.out.grew hg6 hge hpb3)
        have HO6 := Lib.hid (HOK.out.grew hg6 hge (by omega))
        have HB6 := Lib.hid (below_own HBK.out HOW.out hg6 (by omega) HBK.out.size)
        have hs6 : base ≤ w6.heap.size := Nat.le_trans hbs2 hg6.size
        rw [List.append_assoc, ← HDN.out] at ho6
        have HN6 := Lib.hid ho6
        clear ho6 hg6 hge
        go_roundw
        case rel => exact ⟨s + 1, _, rfl, by go_num, by omega, by rw [show P.cnt * 320 + 4 * (s + 1) = P.cnt * 320 + 4 * s + 4 by omega]; exact HN6.out, HP6.out, HO6.out, HB6.out, hs6⟩
        case measure => simp [intOf]; omega
      · obtain rfl : s = P.cnt := by omega
        obtain ⟨A, c, rfl, hcap, hr, hA⟩ := ho.form
        have HSM := Lib.hid (Sha.shaSum_any A _ c _ Wz (row_sha hr) hcap (HT.out.kept hb) (by omega))
        have HO9 := Lib.hid hO
        have HB9 := Lib.hid hb
        have HDE := Lib.hid (show Sha.shaI (dSec S P P.cnt ++ dWear S P P.cnt) = aDig S P from rfl)
        rw [HDE.out] at HSM
        obtain ⟨dig, hdig⟩ : ∃ d, aDig S P = d := ⟨_, rfl⟩
        rw [hdig] at HSM HSL
        have HDG := Lib.hid hdig
        clear hdig
        clear ho hP hO hb hr hA k0 k1 k2 k3
        go_wp2_with (first
          | (go_at_call 52; (with_reducible refine HSM.out.mono ?_); rintro e w9 ⟨rfl, H9⟩; have hO9 := HO9.out.kept H9; have hB9 := HB9.out.trans (H9.mono HB9.out.size))
          | (refine wpList_store_row rfl 49 _ _ rfl w.heap.size (Sha.nums dig).toArray rfl rfl 49 _ hO9 (Sha.size24 HSL.out) (by rw [Sha.zero24_size, List.size_toArray, Sha.nums_len, HSL.out]) (Sha.nums_all _) ?_))
        exact bodyPost_ret (results_cell_row rfl _ _ w.heap.size 49 (Sha.nums dig).toArray (0, 0) _ rfl (setRow_heap _ _ _ _ _ _ hO9) Tryd.underlying49 rfl (Sha.size24 HSL.out)) rfl ⟨by rw [HDG.out], below_setRow hB9 (Nat.le_refl _) _⟩
  · rw [whoV_no hc] at hW
    have hc0 : P.cnt = 0 := by omega
    have HE := Lib.hid (show aDig S P = Sha.shaI [] by unfold aDig dRow dSec; rw [hc0, Nat.zero_mul, List.take_zero]; rfl)
    have HPL := Lib.hid (fun W => place_any (.pointer none) 0 0 0 0 0 W ⟨by omega, by omega⟩ ⟨by omega, by omega⟩ ⟨by omega, by omega⟩)
    rw [show ((0 : Int) + 0) * 320 + 0 = 0 from rfl] at HPL
    rw [HE.out] at HSL ⊢
    have HSM := Lib.hid (fun W (hW : Below w.heap.size w W) => Sha.shaSum_any none 0 0 [] W (row_sha (row_nil W)) (Nat.le_refl _) (HT.out.kept hW) (by omega))
    generalize Sha.shaI [] = dig at *
    unfold fsCells at hW
    go_enter Tryd.func27, Tryd.ntmps27
    go_wp2_with (first
      | (go_at_call 33; (with_reducible refine hh.out.mono ?_); rintro e w0 ⟨rfl, rfl⟩)
      | (go_at_call 34; (with_reducible refine hW.out.mono ?_); rintro e w1 ⟨rfl, H1⟩))
    have b2 := Lib.hid (show Below w.heap.size w (w1.alloc (.cells (fsCells (.pointer none) 0 0 0) 69)) from (HBA.out.trans (H1.mono HBA.out.size)).alloc (HBA.out.trans (H1.mono HBA.out.size)).size _)
    have HO := Lib.hid (show Has (w1.alloc (.cells (fsCells (.pointer none) 0 0 0) 69)) w.heap.size 49 Sha.zero24 from (hout.out.kept H1).more _)
    have HS6 := Lib.hid (show Has (w1.alloc (.cells (fsCells (.pointer none) 0 0 0) 69)) w1.heap.size 69 (fsCells (.pointer none) 0 0 0) from has_new w1 69 _)
    have hlt : w.heap.size < w1.heap.size := by have := H1.size; simp at this; omega
    unfold fsCells at b2 HO
    have HS6' := HS6.out
    unfold fsCells at HS6'
    generalize hpb : w1.heap.size = pb at *
    generalize hwc : w1.alloc (.cells #[.pointer none, .int .i64 0, .int .i64 0, .int .i64 0] 69) = wc at *
    clear hh hW H1 hwc hpb
    have HS7 := Lib.hid (show Has wc.drew pb 69 (fsCells (.pointer none) 0 0 0) from HS6')
    have HO7 := Lib.hid (show Has wc.drew w.heap.size 49 Sha.zero24 from HO.out)
    have b7 := Lib.hid b2.out.drew
    clear HS6 HS6' HO b2
    refine wp_region_held_drew (S := fun W => Has W pb 69 (fsCells (.pointer none) 0 0 0)) (by kernel_rfl) HS7.out ?_
    intro _
    refine wpAnyH_take (i := 0) (v := .pointer (some ⟨pb, 0, none⟩)) rfl (by kernel_rfl) (by kernel_rfl) (by kernel_rfl) (fun _ _ _ h => h) (Or.inl ⟨by rfl, (fun W _ => by go_simp)⟩) HS7.out ?_
    simp only [List.getElem_toArray, List.getElem_cons_succ, List.getElem_cons_zero, Act.put, List.setIfInBounds_toArray, List.set_cons_zero, List.set_cons_succ]
    refine wpAnyH_take (i := 1) (v := .pointer none) rfl (by kernel_rfl) (by kernel_rfl) (by kernel_rfl) (fun _ _ _ h => h) (Or.inl ⟨by rfl, (fun W hW => by obtain ⟨q0, q1, q2, q3⟩ := fs_cells hW; go_simp)⟩) HS7.out ?_
    simp only [List.getElem_toArray, List.getElem_cons_succ, List.getElem_cons_zero, Act.put, List.setIfInBounds_toArray, List.set_cons_zero, List.set_cons_succ]
    refine wpAnyH_take (i := 2) (v := .agg #[.pointer none, .int .i64 0, .int .i64 0, .int .i64 0]) rfl (by kernel_rfl) (by kernel_rfl) (by kernel_rfl) (fun _ _ _ h => h) (Or.inl ⟨by rfl, (fun W hW => by obtain ⟨q0, q1, q2, q3⟩ := fs_cells hW; go_simp)⟩) HS7.out ?_
    simp only [List.getElem_toArray, List.getElem_cons_succ, List.getElem_cons_zero, Act.put, List.setIfInBounds_toArray, List.set_cons_zero, List.set_cons_succ]
    refine wpAnyH_take (i := 4) (v := .pointer (some ⟨pb, 2, none⟩)) rfl (by kernel_rfl) (by kernel_rfl) (by kernel_rfl) (fun _ _ _ h => h) (Or.inl ⟨by rfl, (fun W _ => by go_simp)⟩) HS7.out ?_
    simp only [List.getElem_toArray, List.getElem_cons_succ, List.getElem_cons_zero, Act.put, List.setIfInBounds_toArray, List.set_cons_zero, List.set_cons_succ]
    refine wpAnyH_take (i := 5) (v := .int .i64 0) rfl (by kernel_rfl) (by kernel_rfl) (by kernel_rfl) (fun _ _ _ h => h) (Or.inl ⟨by rfl, (fun W hW => by obtain ⟨q0, q1, q2, q3⟩ := fs_cells hW; go_simp)⟩) HS7.out ?_
    simp only [List.getElem_toArray, List.getElem_cons_succ, List.getElem_cons_zero, Act.put, List.setIfInBounds_toArray, List.set_cons_zero, List.set_cons_succ]
    refine wpAnyH_take (i := 6) (v := .int .i64 0) rfl (by kernel_rfl) (by kernel_rfl) (by kernel_rfl) (fun _ _ _ h => h) (Or.inl ⟨by rfl, (fun W hW => by have q9 : IntKind.i64.wrap 0 = 0 := rfl; go_simp)⟩) HS7.out ?_
    simp only [List.getElem_toArray, List.getElem_cons_succ, List.getElem_cons_zero, Act.put, List.setIfInBounds_toArray, List.set_cons_zero, List.set_cons_succ]
    refine wpAnyH_ready (rs := [3]) (by kernel_rfl) (by simp) ?_
    refine AllReadyH.cons rfl (fun K hK => ?_) AllReadyH.nil
    go_simp
    refine (HPL.out _).mono ?_
    rintro e w3 ⟨rfl, H3⟩
    have HS8 := Lib.hid (HS7.out.kept H3)
    have HO8 := Lib.hid (HO7.out.kept H3)
    have b3 := Lib.hid (b7.out.trans (H3.mono b7.out.size))
    refine hK.out _ _ HS8.out (fun _ => ?_)
    clear hK K
    refine wpAnyH_ready (rs := [7]) (by kernel_rfl) (by simp) ?_
    refine AllReadyH.cons rfl (fun K hK => ?_) AllReadyH.nil
    go_simp
    refine (read_nil w3).mono ?_
    rintro e w4 ⟨rfl, b4⟩
    have HS9 := Lib.hid (HS8.out.kept b4)
    have HO9 := Lib.hid (HO8.out.kept b4)
    have B9 := Lib.hid (b3.out.trans (b4.mono b3.out.size))
    refine hK.out _ _ HS9.out (fun _ => ?_)
    clear hK K
    refine wpAnyH_take (i := 8) (v := .slice none 0 0) rfl (by kernel_rfl) (by kernel_rfl) (by kernel_rfl) (fun _ _ _ h => h) (Or.inl ⟨by rfl, (fun W _ => by go_simp)⟩) HS9.out ?_
    simp only [List.getElem_toArray, List.getElem_cons_succ, List.getElem_cons_zero, Act.put, List.setIfInBounds_toArray, List.set_cons_zero, List.set_cons_succ]
    refine wpAnyH_done (by kernel_rfl) ?_ _
    obtain ⟨k0, k1, k2, k3⟩ := fs_cells HS9.out
    clear HS7 HS8 HO7 HO8 b3 b7 HPL H3 b4
    go_wp2_with fail
    go_loop [4, 19] (fun v4 v19 => v4 = .slice none 0 0 ∧ v19 = .int .i64 0) (fun _ _ => 0)
    case atStart => exact ⟨rfl, rfl⟩
    case round =>
      obtain ⟨rfl, rfl⟩ := hrel
      have HS2 := Lib.hid (HSM.out w4 B9.out)
      go_wp2_with (first
        | (go_at_call 52; (with_reducible refine HS2.out.mono ?_); rintro e w9 ⟨rfl, H9⟩; have hO9 := HO9.out.kept H9; have hB9 := B9.out.trans (H9.mono B9.out.size))
        | (refine wpList_store_row rfl 49 _ _ rfl w.heap.size (Sha.nums dig).toArray rfl rfl 49 _ hO9 (Sha.size24 HSL.out) (by rw [Sha.zero24_size, List.size_toArray, Sha.nums_len, HSL.out]) (Sha.nums_all _) ?_))
      exact bodyPost_ret (results_cell_row rfl _ _ w.heap.size 49 (Sha.nums dig).toArray (0, 0) _ rfl (setRow_heap _ _ _ _ _ _ hO9) Tryd.underlying49 rfl (Sha.size24 HSL.out)) rfl ⟨rfl, below_setRow hB9 (Nat.le_refl _) _⟩
end Go.Proofs.YtgignmjojlolfaaDoor
