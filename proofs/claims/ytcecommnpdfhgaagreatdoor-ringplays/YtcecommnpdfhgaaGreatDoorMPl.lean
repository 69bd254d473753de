/-
  Several texts in one: Rdig, Live, PlR; each says its own conditions.
-/
import Derived.Test.YtcecommnpdfhgaaGreatDoorMAb
import Derived.Test.YtcecommnpdfhgaaGreatDoorMRg
import Derived.Test.YtcecommnpdfhgaaGreatDoorCut
import Derived.Deep.Slices
import Derived.Deep.Fields
import Derived.Deep.CutRange
import Derived.Deep.CutBlock
import Derived.Deep.RegionHeld
import Derived.Laws.BytesArg
import Derived.ChangeOld
import Derived.OpenShut
namespace Go.Proofs.YtcecommnpdfhgaaGreatDoor
open Go.RowKit
set_option linter.unusedVariables false
set_option linter.unusedSimpArgs false

/-- The stream has taken these bytes. -/
def TookD (w : World) (wr : World) (b : Nat) (xs : List Int) : Prop :=
  ∃ v, Has wr b 126 (Sha.rsCells (Sha.run Sha.st0 xs).1 xs.length v) ∧ Sha.Own wr 0 v (Sha.run Sha.st0 xs).2.length (Sha.run Sha.st0 xs).2 ∧ Has wr w.heap.size 53 Sha.zero24 ∧ Below w.heap.size w wr
theorem took_more {w wr w' : World} {b : Nat} {xs zs : List Int} {e : Ending} (hb : w.heap.size < b) (ho : Has wr w.heap.size 53 Sha.zero24) (hB : Below w.heap.size w wr) (h : Sha.RWrote b (Sha.run Sha.st0 xs).1 xs.length (Sha.run Sha.st0 xs).2 zs wr e w') : e = .returned (.tuple #[]) ∧ TookD w w' b (xs ++ zs) := by
  obtain ⟨rfl, v, h1, h2, h3⟩ := h
  refine ⟨rfl, v, ?_, ?_, (h3.block _ ho.size (by intro e; injection e; omega)).trans ho, Sha.below_only hB h3 (by omega) hB.size⟩
  · rw [Sha.run_app, List.length_append]
    exact h1
  · rw [Sha.run_app]
    exact h2.lower (Nat.zero_le _)
theorem took_below {w wr : World} {b : Nat} {xs : List Int} (h : TookD w wr b xs) : Below w.heap.size w wr := by obtain ⟨_, _, _, _, h⟩ := h; exact h
/-- So many sectors are taken. -/
def Secs (w : World) (S : Fs) (P : Pt) (b : Nat) (v : Value) (wr : World) : Prop := ∃ s : Nat, v = .int .i64 (s : Int) ∧ s ≤ P.cnt ∧ TookD w wr b (dSec S P s)
/-- All of them, and so many wears. -/
def Wears (w : World) (S : Fs) (P : Pt) (b : Nat) (v : Value) (wr : World) : Prop := ∃ s : Nat, v = .int .i64 (s : Int) ∧ s ≤ P.cnt ∧ TookD w wr b (dSec S P P.cnt ++ dWear S P s)
theorem took_room {S : Fs} {P : Pt} (hok : S.Ok) {k : Nat} (hb : Byt (dSec S P k)) : (Sha.run Sha.st0 (dSec S P k)).1.Ok ∧ (Sha.run Sha.st0 (dSec S P k)).2.length ≤ 64 :=
  ⟨Sha.run_ok Sha.st0_ok hb, by rw [Sha.run_len Sha.st0_ok hb]; omega⟩
theorem run_room {xs : List Int} (hb : Byt xs) : (Sha.run Sha.st0 xs).1.Ok ∧ (Sha.run Sha.st0 xs).2.length ≤ 64 :=
  ⟨Sha.run_ok Sha.st0_ok hb, by rw [Sha.run_len Sha.st0_ok hb]; omega⟩
set_option maxRecDepth 100000 in
set_option maxHeartbeats 2000000 in
theorem radigest_any {T x g m k : Nat} {S : Fs} {P : Pt} (w : World) (ha : Rar w x g P) (hf : Rl w T g m k S) (hp : P.Ok S.wear.length) (hfew : Few S) (hops : S.ops ≤ 1000000) :
    Calls Tryz.prog 27 #[.pointer (some ⟨x, 0, none⟩)] w fun e w' => e = .returned (.agg (Sha.nums (aDig S P)).toArray) ∧ Below w.heap.size w w' := by
  have hz := Sha.zero24_run
  have hba : Below w.heap.size w (w.alloc (.cells Sha.zero24 53)) := (Below.refl _ _).alloc (Nat.le_refl _) _
  have hout := Lib.hid (has_new w 53 Sha.zero24)
  have HF := Lib.hid hf
  have HA := Lib.hid ha
  have HOK := Lib.hid hf.ok
  have HP := Lib.hid hp
  have h1 := hp.in'
  have h2 := hp.few
  have HSL := Lib.hid (show (aDig S P).length = 32 from rfl)
  have HNW := Lib.hid (Sha.rnew_any (w.alloc (.cells Sha.zero24 53)))
  have HBA := Lib.hid hba
  clear ha hf hba
  go_enter Tryz.func27, Tryz.ntmps27
  go_wp2_with (go_at_call 58; (with_reducible refine HNW.out.mono ?_); rintro e w1 ⟨b, rfl, hbge, hs1, H1⟩)
  have hlt : w.heap.size < b := by simp at hbge; omega
  have hst : Secs w S P b (.int .i64 0) w1 := ⟨0, rfl, Nat.zero_le _, by
    have e : dSec S P 0 = [] := by unfold dSec; rw [Nat.zero_mul, List.take_zero]
    rw [e]
    exact ⟨_, hs1, Sha.own_nil _ _, hout.out.kept H1, HBA.out.trans (H1.mono HBA.out.size)⟩⟩
  clear hs1 H1 HNW hbge hout
  go_loopw [4] (fun v wr => Secs w S P b v wr) (fun v _ => P.cnt - (intOf v).toNat)
  case atStart => exact hst
  case round =>
    clear hst
    obtain ⟨s, rfl, hs, htk⟩ := hrel
    obtain ⟨Wz, rfl⟩ : ∃ x, x = wr := ⟨_, rfl⟩
    obtain ⟨v, hH, hO, hZ, hB⟩ := htk
    obtain ⟨c0, c1, c2, c3⟩ := ra_cells (HA.out.kept hB)
    have s0 : (0 : Int) ≤ (s : Int) := by omega
    by_cases hlt2 : s < P.cnt
    · have s1 : (s : Int) < (P.cnt : Int) := by omega
      have q1 : IntKind.i64.wrap ((P.fst : Int) + (s : Int)) = (P.fst : Int) + (s : Int) := by rw [IntKind.wrap_i64]; omega
      have q2 : IntKind.i64.wrap (((P.fst : Int) + (s : Int)) * 320) = ((P.fst : Int) + (s : Int)) * 320 := by rw [IntKind.wrap_i64]; omega
      have HH := Lib.hid hH
      have HO := Lib.hid hO
      have HZ := Lib.hid hZ
      have HB := Lib.hid hB
      have HRD := Lib.hid (rread_any (((P.fst : Int) + (s : Int)) * 320) 320 Wz.drew ⟨by omega, by omega⟩ ⟨by omega, by omega⟩ (HF.out.kept hB.drew))
      have HMO := Lib.hid (dSec_more HOK.out HP.out hlt2)
      have HRL := Lib.hid (show (read S (((P.fst : Int) + (s : Int)) * 320) 320).length = 320 by
        have e : (((P.fst : Int) + (s : Int)) * 320) = (((P.fst + s) * 320 : Nat) : Int) := by omega
        have hl := HOK.out.len
        rw [e]
        exact read_len (n := 320) (by omega) (by omega))
      have HRM := Lib.hid (run_room (dSec_byt HOK.out P s))
      have HXL := Lib.hid (dSec_len HOK.out HP.out (Nat.le_of_lt hlt2))
      generalize read S (((P.fst : Int) + (s : Int)) * 320) 320 = rd at *
      clear hH hO hZ hB
      have HS7 := Lib.hid (show Rar Wz.drew x g P from HA.out.kept HB.out.drew)
      go_wp2_with fail
      refine wp_region_held_drew (S := fun W => Rar W x g P) (by kernel_rfl) HS7.out ?_
      intro _
      refine wpAnyH_take (i := 0) (v := .pointer (some ⟨b, 0, none⟩)) rfl (by kernel_rfl) (by kernel_rfl) (by kernel_rfl) (fun _ _ _ h => h) (Or.inl ⟨by rfl, (fun W _ => by go_simp)⟩) HS7.out ?_
      simp only [List.getElem_toArray, List.getElem_cons_succ, List.getElem_cons_zero, Act.put, List.setIfInBounds_toArray, List.set_cons_zero, List.set_cons_succ]
      refine wpAnyH_take (i := 1) (v := .pointer (some ⟨x, 0, none⟩)) rfl (by kernel_rfl) (by kernel_rfl) (by kernel_rfl) (fun _ _ _ h => h) (Or.inl ⟨by rfl, (fun W _ => by go_simp)⟩) HS7.out ?_
      simp only [List.getElem_toArray, List.getElem_cons_succ, List.getElem_cons_zero, Act.put, List.setIfInBounds_toArray, List.set_cons_zero, List.set_cons_succ]
      refine wpAnyH_take (i := 2) (v := .pointer (some ⟨x, 0, none⟩)) rfl (by kernel_rfl) (by kernel_rfl) (by kernel_rfl) (fun _ _ _ h => h) (Or.inl ⟨by rfl, (fun W _ => by go_simp)⟩) HS7.out ?_
      simp only [List.getElem_toArray, List.getElem_cons_succ, List.getElem_cons_zero, Act.put, List.setIfInBounds_toArray, List.set_cons_zero, List.set_cons_succ]
      refine wpAnyH_take (i := 3) (v := .pointer (some ⟨x, 0, none⟩)) rfl (by kernel_rfl) (by kernel_rfl) (by kernel_rfl) (fun _ _ _ h => h) (Or.inl ⟨by rfl, (fun W _ => by go_simp)⟩) HS7.out ?_
      simp only [List.getElem_toArray, List.getElem_cons_succ, List.getElem_cons_zero, Act.put, List.setIfInBounds_toArray, List.set_cons_zero, List.set_cons_succ]
      refine wpAnyH_take (i := 4) (v := .pointer (some ⟨g, 0, none⟩)) rfl (by kernel_rfl) (by kernel_rfl) (by kernel_rfl) (fun _ _ _ h => h) (Or.inl ⟨by rfl, (fun W hW => by obtain ⟨y0, y1, y2, y3⟩ := ra_cells hW; go_simp)⟩) HS7.out ?_
      simp only [List.getElem_toArray, List.getElem_cons_succ, List.getElem_cons_zero, Act.put, List.setIfInBounds_toArray, List.set_cons_zero, List.set_cons_succ]
      refine wpAnyH_take (i := 5) (v := .pointer (some ⟨x, 0, none⟩)) rfl (by kernel_rfl) (by kernel_rfl) (by kernel_rfl) (fun _ _ _ h => h) (Or.inl ⟨by rfl, (fun W _ => by go_simp)⟩) HS7.out ?_
      simp only [List.getElem_toArray, List.getElem_cons_succ, List.getElem_cons_zero, Act.put, List.setIfInBounds_toArray, List.set_cons_zero, List.set_cons_succ]
      refine wpAnyH_take (i := 6) (v := .pointer (some ⟨x, 0, none⟩)) rfl (by kernel_rfl) (by kernel_rfl) (by kernel_rfl) (fun _ _ _ h => h) (Or.inl ⟨by rfl, (fun W _ => by go_simp)⟩) HS7.out ?_
      simp only [List.getElem_toArray, List.getElem_cons_succ, List.getElem_cons_zero, Act.put, List.setIfInBounds_toArray, List.set_cons_zero, List.set_cons_succ]
      refine wpAnyH_take (i := 7) (v := .pointer (some ⟨x, 1, none⟩)) rfl (by kernel_rfl) (by kernel_rfl) (by kernel_rfl) (fun _ _ _ h => h) (Or.inl ⟨by rfl, (fun W _ => by go_simp)⟩) HS7.out ?_
      simp only [List.getElem_toArray, List.getElem_cons_succ, List.getElem_cons_zero, Act.put, List.setIfInBounds_toArray, List.set_cons_zero, List.set_cons_succ]
      refine wpAnyH_take (i := 8) (v := .int .i64 (P.fst : Int)) rfl (by kernel_rfl) (by kernel_rfl) (by kernel_rfl) (fun _ _ _ h => h) (Or.inl ⟨by rfl, (fun W hW => by obtain ⟨y0, y1, y2, y3⟩ := ra_cells hW; go_simp)⟩) HS7.out ?_
      simp only [List.getElem_toArray, List.getElem_cons_succ, List.getElem_cons_zero, Act.put, List.setIfInBounds_toArray, List.set_cons_zero, List.set_cons_succ]
      refine wpAnyH_take (i := 9) (v := .int .i64 (s : Int)) rfl (by kernel_rfl) (by kernel_rfl) (by kernel_rfl) (fun _ _ _ h => h) (Or.inl ⟨by rfl, (fun W _ => by go_simp)⟩) HS7.out ?_
      simp only [List.getElem_toArray, List.getElem_cons_succ, List.getElem_cons_zero, Act.put, List.setIfInBounds_toArray, List.set_cons_zero, List.set_cons_succ]
      refine wpAnyH_take (i := 10) (v := .int .i64 ((P.fst : Int) + (s : Int))) rfl (by kernel_rfl) (by kernel_rfl) (by kernel_rfl) (fun _ _ _ h => h) (Or.inl ⟨by rfl, (fun W _ => by go_simp)⟩) HS7.out ?_
      simp only [List.getElem_toArray, List.getElem_cons_succ, List.getElem_cons_zero, Act.put, List.setIfInBounds_toArray, List.set_cons_zero, List.set_cons_succ]
      refine wpAnyH_take (i := 11) (v := .int .i64 (((P.fst : Int) + (s : Int)) * 320)) rfl (by kernel_rfl) (by kernel_rfl) (by kernel_rfl) (fun _ _ _ h => h) (Or.inl ⟨by rfl, (fun W _ => by go_simp)⟩) HS7.out ?_
      simp only [List.getElem_toArray, List.getElem_cons_succ, List.getElem_cons_zero, Act.put, List.setIfInBounds_toArray, List.set_cons_zero, List.set_cons_succ]
      refine wpAnyH_ready (rs := [12]) (by kernel_rfl) (by simp) ?_
      refine AllReadyH.cons rfl (fun K hK => ?_) AllReadyH.nil
      go_simp
      refine (HRD.out).mono ?_
      rintro e w4 ⟨A4, c4, rfl, hc4, r4, hA4, b4⟩
      rw [HRL.out] at hc4 r4 ⊢
      have HWR := Lib.hid (Sha.rwrite_any b (dSec S P s).length _ v _ A4 320 c4 rd w4 HRM.out.1 (HH.out.kept (((Below.refl _ Wz).drew).trans b4)) (HO.out.kept (((Below.refl _ Wz).drew).trans b4)) (row_sha r4) hc4 (fun _ x hx e => by have h5 := hA4 x hx; have h6 := HH.out.size; rw [e] at h5; simp at h5; omega) (by have := HXL.out; omega) (by have := HRM.out.2; omega))
      have HS8 := Lib.hid (HS7.out.kept b4)
      refine hK.out _ _ HS8.out (fun _ => ?_)
      clear hK K
      refine wpAnyH_ready (rs := [13]) (by kernel_rfl) (by simp) ?_
      refine AllReadyH.cons rfl (fun K hK => ?_) AllReadyH.nil
      go_simp
      refine (HWR.out).mono ?_
      intro e w5 hw5
      have HT5 := Lib.hid (took_more hlt (HZ.out.kept (((Below.refl _ Wz).drew).trans b4)) (HB.out.trans ((((Below.refl _ Wz).drew).trans b4).mono HB.out.size)) hw5)
      obtain rfl := HT5.out.1
      have HS9 := Lib.hid (HA.out.kept (took_below HT5.out.2))
      refine hK.out _ _ HS9.out (fun _ => ?_)
      clear hK K
      refine wpAnyH_done (by kernel_rfl) ?_ _
      go_wp2_with fail
      have HT6 := Lib.hid HT5.out.2
      rw [← HMO.out] at HT6
      go_roundw
      case rel => exact ⟨s + 1, by go_num, by omega, HT6.out⟩
      case measure => simp [intOf]; omega
    · obtain rfl : s = P.cnt := by omega
      have hst2 : Wears w S P b (.int .i64 0) Wz := ⟨0, rfl, Nat.zero_le _, by
        show TookD w Wz b (dSec S P P.cnt ++ [])
        rw [List.append_nil]
        exact ⟨v, hH, hO, hZ, hB⟩⟩
      clear hH hO hZ hB
      go_wp2_with fail
      go_loopw [5] (fun v wr => Wears w S P b v wr) (fun v _ => P.cnt - (intOf v).toNat)
      case atStart => exact hst2
      case round =>
        clear hst2 c0 c1 c2 c3
        obtain ⟨s, rfl, hs, htk⟩ := hrel
        obtain ⟨Wy, rfl⟩ : ∃ x, x = wr := ⟨_, rfl⟩
        obtain ⟨v, hH, hO, hZ, hB⟩ := htk
        obtain ⟨c0, c1, c2, c3⟩ := ra_cells (HA.out.kept hB)
        have s0 : (0 : Int) ≤ (s : Int) := by omega
        have HBY := Lib.hid (byt_app (dSec_byt HOK.out P P.cnt) (dWear_byt hfew hops P s))
        have HRM := Lib.hid (run_room HBY.out)
        have HXL := Lib.hid (show (dSec S P P.cnt ++ dWear S P s).length = P.cnt * 320 + 4 * s by rw [List.length_append, dSec_len HOK.out HP.out (Nat.le_refl _), dWear_len])
        have HH := Lib.hid hH
        have HO := Lib.hid hO
        have HZ := Lib.hid hZ
        have HB := Lib.hid hB
        by_cases hlt2 : s < P.cnt
        · have s1 : (s : Int) < (P.cnt : Int) := by omega
          have q1 : IntKind.i64.wrap ((P.fst : Int) + (s : Int)) = (P.fst : Int) + (s : Int) := by rw [IntKind.wrap_i64]; omega
          have HWE := Lib.hid (rwear_any ((P.fst : Int) + (s : Int)) Wy.drew (HF.out.kept hB.drew))
          have hword := wear_word hfew hops ((P.fst : Int) + (s : Int))
          have HDN := Lib.hid (show dWear S P (s + 1) = dWear S P s ++ Sha.bytes4 (wearAt S ((P.fst : Int) + (s : Int))) from rfl)
          generalize wearAt S ((P.fst : Int) + (s : Int)) = wv at *
          have q2 : IntKind.u32.wrap wv = wv := by rw [IntKind.wrap_u32]; omega
          have HB4 := Lib.hid (Sha.rbytes_any wv Wy.drew hword)
          have hrw := Lib.hid (show Row (Wy.drew.alloc (.cells ((Sha.bytes4 wv).map (Value.int .u8)).toArray 5)) (some ⟨Wy.heap.size, 0, none⟩) 4 (Sha.bytes4 wv) from row_text Wy.drew (Sha.bytes4 wv) (Sha.bytes4_bd hword) 4 rfl (0, 0))
          have HAL := Lib.hid (show Below Wy.heap.size Wy (Wy.drew.alloc (.cells ((Sha.bytes4 wv).map (Value.int .u8)).toArray 5)) from ((Below.refl _ Wy).drew).alloc (Nat.le_refl _) _)
          have HWR := Lib.hid (Sha.rwrite_any b (dSec S P P.cnt ++ dWear S P s).length _ v _ (some ⟨Wy.heap.size, 0, none⟩) 4 4 (Sha.bytes4 wv) (Wy.drew.alloc (.cells ((Sha.bytes4 wv).map (Value.int .u8)).toArray 5)) HRM.out.1 (HH.out.kept HAL.out) (HO.out.kept HAL.out) (row_sha hrw.out) (Nat.le_refl _) (fun _ x hx e => by cases hx; have := HH.out.size; simp at e; omega) (by have := HXL.out; omega) (by have := HRM.out.2; omega))
          clear hH hO hZ hB
          have HS7 := Lib.hid (show Rar Wy.drew x g P from HA.out.kept HB.out.drew)
          go_wp2_with fail
          refine wp_region_held_drew (S := fun W => Rar W x g P) (by kernel_rfl) HS7.out ?_
          intro _
          refine wpAnyH_take (i := 0) (v := .pointer (some ⟨b, 0, none⟩)) rfl (by kernel_rfl) (by kernel_rfl) (by kernel_rfl) (fun _ _ _ h => h) (Or.inl ⟨by rfl, (fun W _ => by go_simp)⟩) HS7.out ?_
          simp only [List.getElem_toArray, List.getElem_cons_succ, List.getElem_cons_zero, Act.put, List.setIfInBounds_toArray, List.set_cons_zero, List.set_cons_succ]
          refine wpAnyH_take (i := 1) (v := .pointer (some ⟨x, 0, none⟩)) rfl (by kernel_rfl) (by kernel_rfl) (by kernel_rfl) (fun _ _ _ h => h) (Or.inl ⟨by rfl, (fun W _ => by go_simp)⟩) HS7.out ?_
          simp only [List.getElem_toArray, List.getElem_cons_succ, List.getElem_cons_zero, Act.put, List.setIfInBounds_toArray, List.set_cons_zero, List.set_cons_succ]
          refine wpAnyH_take (i := 2) (v := .pointer (some ⟨x, 0, none⟩)) rfl (by kernel_rfl) (by kernel_rfl) (by kernel_rfl) (fun _ _ _ h => h) (Or.inl ⟨by rfl, (fun W _ => by go_simp)⟩) HS7.out ?_
          simp only [List.getElem_toArray, List.getElem_cons_succ, List.getElem_cons_zero, Act.put, List.setIfInBounds_toArray, List.set_cons_zero, List.set_cons_succ]
          refine wpAnyH_take (i := 3) (v := .pointer (some ⟨x, 0, none⟩)) rfl (by kernel_rfl) (by kernel_rfl) (by kernel_rfl) (fun _ _ _ h => h) (Or.inl ⟨by rfl, (fun W _ => by go_simp)⟩) HS7.out ?_
          simp only [List.getElem_toArray, List.getElem_cons_succ, List.getElem_cons_zero, Act.put, List.setIfInBounds_toArray, List.set_cons_zero, List.set_cons_succ]
          refine wpAnyH_take (i := 4) (v := .pointer (some ⟨g, 0, none⟩)) rfl (by kernel_rfl) (by kernel_rfl) (by kernel_rfl) (fun _ _ _ h => h) (Or.inl ⟨by rfl, (fun W hW => by obtain ⟨y0, y1, y2, y3⟩ := ra_cells hW; go_simp)⟩) HS7.out ?_
          simp only [List.getElem_toArray, List.getElem_cons_succ, List.getElem_cons_zero, Act.put, List.setIfInBounds_toArray, List.set_cons_zero, List.set_cons_succ]
          refine wpAnyH_take (i := 5) (v := .pointer (some ⟨x, 0, none⟩)) rfl (by kernel_rfl) (by kernel_rfl) (by kernel_rfl) (fun _ _ _ h => h) (Or.inl ⟨by rfl, (fun W _ => by go_simp)⟩) HS7.out ?_
          simp only [List.getElem_toArray, List.getElem_cons_succ, List.getElem_cons_zero, Act.put, List.setIfInBounds_toArray, List.set_cons_zero, List.set_cons_succ]
          refine wpAnyH_take (i := 6) (v := .pointer (some ⟨x, 0, none⟩)) rfl (by kernel_rfl) (by kernel_rfl) (by kernel_rfl) (fun _ _ _ h => h) (Or.inl ⟨by rfl, (fun W _ => by go_simp)⟩) HS7.out ?_
          simp only [List.getElem_toArray, List.getElem_cons_succ, List.getElem_cons_zero, Act.put, List.setIfInBounds_toArray, List.set_cons_zero, List.set_cons_succ]
          refine wpAnyH_take (i := 7) (v := .pointer (some ⟨x, 1, none⟩)) rfl (by kernel_rfl) (by kernel_rfl) (by kernel_rfl) (fun _ _ _ h => h) (Or.inl ⟨by rfl, (fun W _ => by go_simp)⟩) HS7.out ?_
          simp only [List.getElem_toArray, List.getElem_cons_succ, List.getElem_cons_zero, Act.put, List.setIfInBounds_toArray, List.set_cons_zero, List.set_cons_succ]
          refine wpAnyH_take (i := 8) (v := .int .i64 (P.fst : Int)) rfl (by kernel_rfl) (by kernel_rfl) (by kernel_rfl) (fun _ _ _ h => h) (Or.inl ⟨by rfl, (fun W hW => by obtain ⟨y0, y1, y2, y3⟩ := ra_cells hW; go_simp)⟩) HS7.out ?_
          simp only [List.getElem_toArray, List.getElem_cons_succ, List.getElem_cons_zero, Act.put, List.setIfInBounds_toArray, List.set_cons_zero, List.set_cons_succ]
          refine wpAnyH_take (i := 9) (v := .int .i64 (s : Int)) rfl (by kernel_rfl) (by kernel_rfl) (by kernel_rfl) (fun _ _ _ h => h) (Or.inl ⟨by rfl, (fun W _ => by go_simp)⟩) HS7.out ?_
          simp only [List.getElem_toArray, List.getElem_cons_succ, List.getElem_cons_zero, Act.put, List.setIfInBounds_toArray, List.set_cons_zero, List.set_cons_succ]
          refine wpAnyH_take (i := 10) (v := .int .i64 ((P.fst : Int) + (s : Int))) rfl (by kernel_rfl) (by kernel_rfl) (by kernel_rfl) (fun _ _ _ h => h) (Or.inl ⟨by rfl, (fun W _ => by go_simp)⟩) HS7.out ?_
          simp only [List.getElem_toArray, List.getElem_cons_succ, List.getElem_cons_zero, Act.put, List.setIfInBounds_toArray, List.set_cons_zero, List.set_cons_succ]
          refine wpAnyH_ready (rs := [11]) (by kernel_rfl) (by simp) ?_
          refine AllReadyH.cons rfl (fun K hK => ?_) AllReadyH.nil
          go_simp
          refine (HWE.out).mono ?_
          rintro e w3 ⟨rfl, rfl⟩
          refine hK.out _ _ HS7.out (fun _ => ?_)
          clear hK K
          refine wpAnyH_take (i := 12) (v := .int .u32 wv) rfl (by kernel_rfl) (by kernel_rfl) (by kernel_rfl) (fun _ _ _ h => h) (Or.inl ⟨by rfl, (fun W _ => by go_simp)⟩) HS7.out ?_
          simp only [List.getElem_toArray, List.getElem_cons_succ, List.getElem_cons_zero, Act.put, List.setIfInBounds_toArray, List.set_cons_zero, List.set_cons_succ]
          refine wpAnyH_ready (rs := [13]) (by kernel_rfl) (by simp) ?_
          refine AllReadyH.cons rfl (fun K hK => ?_) AllReadyH.nil
          go_simp
          refine (HB4.out).mono ?_
          rintro e w4 ⟨rfl, rfl⟩
          have HS8 := Lib.hid (HA.out.kept (HB.out.trans (HAL.out.mono HB.out.size)))
          refine hK.out _ _ HS8.out (fun _ => ?_)
          clear hK K
          refine wpAnyH_ready (rs := [14]) (by kernel_rfl) (by simp) ?_
          refine AllReadyH.cons rfl (fun K hK => ?_) AllReadyH.nil
          go_simp
          refine (HWR.out).mono ?_
          intro e w5 hw5
          have HT5 := Lib.hid (took_more hlt (HZ.out.kept HAL.out) (HB.out.trans (HAL.out.mono HB.out.size)) hw5)
          obtain rfl := HT5.out.1
          have HS9 := Lib.hid (HA.out.kept (took_below HT5.out.2))
          refine hK.out _ _ HS9.out (fun _ => ?_)
          clear hK K
          refine wpAnyH_done (by kernel_rfl) ?_ _
          go_wp2_with fail
          have HT6 := Lib.hid HT5.out.2
          rw [List.append_assoc, ← HDN.out] at HT6
          go_roundw
          case rel => exact ⟨s + 1, by go_num, by omega, HT6.out⟩
          case measure => simp [intOf]; omega
        · obtain rfl : s = P.cnt := by omega
          have HSM := Lib.hid (Sha.rsum_any b _ _ v _ Wy HRM.out.1 hH hO (Sha.run_len Sha.st0_ok HBY.out) (by have := HXL.out; omega))
          have HDE := Lib.hid (show Sha.sumI (Sha.run Sha.st0 (dSec S P P.cnt ++ dWear S P P.cnt)).1 (dSec S P P.cnt ++ dWear S P P.cnt).length (Sha.run Sha.st0 (dSec S P P.cnt ++ dWear S P P.cnt)).2 = aDig S P from rfl)
          rw [HDE.out] at HSM
          obtain ⟨dig, hdig⟩ : ∃ d, aDig S P = d := ⟨_, rfl⟩
          rw [hdig] at HSM HSL
          have HDG := Lib.hid hdig
          clear hdig hH hO hZ hB
          go_wp2_with (first
            | (go_at_call 63; (with_reducible refine HSM.out.mono ?_); rintro e w9 ⟨rfl, H9⟩; have hO9 := HZ.out.kept H9; have hB9 := HB.out.trans (H9.mono HB.out.size))
            | (refine wpList_store_row rfl 53 _ _ rfl w.heap.size (Sha.nums dig).toArray rfl rfl 53 _ hO9 (Sha.size24 HSL.out) (by rw [Sha.zero24_size, List.size_toArray, Sha.nums_len, HSL.out]) (Sha.nums_all _) ?_))
          exact bodyPost_ret (results_cell_row rfl _ _ w.heap.size 53 (Sha.nums dig).toArray (0, 0) _ rfl (setRow_heap _ _ _ _ _ _ hO9) Tryz.underlying53 rfl (Sha.size24 HSL.out)) rfl ⟨by rw [HDG.out], below_setRow hB9 (Nat.le_refl _) _⟩
end Go.Proofs.YtcecommnpdfhgaaGreatDoor

namespace Go.Proofs.YtcecommnpdfhgaaGreatDoor
open Go.RowKit
set_option linter.unusedVariables false
set_option linter.unusedSimpArgs false

theorem Ar.only {w w' : World} {x g : Nat} {P : Pt} {p : Nat → Prop} (h : Ar w x g P) (o : Only p w w') (hp : ¬ p x) : Ar w' x g P := Has.only h o hp
theorem not_in {w : World} {T g m k : Nat} {S : Fs} (hf : Fl w T g m k S) {x : Nat} (hx : w.heap.size ≤ x) : ¬ In3 g m k x := fun e => by have := hf.in _ e; omega
theorem made_live : Pt.made 3 1 2 4 = ⟨1, 2, 4⟩ := rfl
theorem live_is : (aProg (fresh 3) ⟨1, 2, 4⟩ 0 0 [1]).1 = 0 ∧ aLeft (aProg (fresh 3) ⟨1, 2, 4⟩ 0 0 [1]).2 ⟨1, 2, 4⟩ 1 = 4 := by decide +kernel
end Go.Proofs.YtcecommnpdfhgaaGreatDoor

namespace Go.Proofs.YtcecommnpdfhgaaGreatDoor
open Go.ChangeShapes Go.WideShapes Go.ChangeAt Go.RowKit
set_option linter.unusedVariables false
set_option linter.unusedSimpArgs false

/-- A call as the law was handed it: four cells from o on, its two rows. -/
structure ActAt (w : World) (b o : Nat) (way n : Int) (BA : Option Addr) (BL BC : Nat) (bs : List Int) (MA : Option Addr) (ML MC : Nat) (ms : List Int) : Prop where
  c0 : w.cell? ⟨b, o, none⟩ = some (.int .i64 way)
  c1 : w.cell? ⟨b, o + 1, none⟩ = some (.int .i64 n)
  c2 : w.cell? ⟨b, o + 2, none⟩ = some (.slice BA BL BC)
  c3 : w.cell? ⟨b, o + 3, none⟩ = some (.slice MA ML MC)
  i1 : I64 n
  rb : Row w BA BL bs
  lb : BL ≤ BC
  rm : Row w MA ML ms
  lm : ML ≤ MC
theorem ActAt.kept {w w' : World} {b o : Nat} {way n : Int} {BA : Option Addr} {BL BC : Nat} {bs : List Int} {MA : Option Addr} {ML MC : Nat} {ms : List Int} (h : ActAt w b o way n BA BL BC bs MA ML MC ms) (hb : Below w.heap.size w w') : ActAt w' b o way n BA BL BC bs MA ML MC ms := by
  have hlt : b < w.heap.size := World.block_lt_of_cell? _ _ h.c0
  exact ⟨(hb.cell (p := ⟨b, o, none⟩) hlt).trans h.c0, (hb.cell (p := ⟨b, o + 1, none⟩) hlt).trans h.c1, (hb.cell (p := ⟨b, o + 2, none⟩) hlt).trans h.c2, (hb.cell (p := ⟨b, o + 3, none⟩) hlt).trans h.c3, h.i1, row_below hb h.rb, h.lb, row_below hb h.rm, h.lm⟩
/-- All of them. -/
def Acts (w : World) (a : Option Addr) (len : Nat) : Prop := len = 0 ∨ ∃ b off, a = some ⟨b, off, none⟩ ∧ ∀ i, i < len → ∃ way n BA BL BC bs MA ML MC ms, ActAt w b (off + i * 4) way n BA BL BC bs MA ML MC ms
/-- The call's own copy. -/
def actCells (way q : Int) (BA : Option Addr) (BL BC : Nat) (MA : Option Addr) (ML MC : Nat) : Array Value := #[.int .i64 way, .int .i64 q, .slice BA BL BC, .slice MA ML MC]
theorem act_cells {w : World} {ab : Nat} {way q : Int} {BA : Option Addr} {BL BC : Nat} {MA : Option Addr} {ML MC : Nat} (h : Has w ab 36 (actCells way q BA BL BC MA ML MC)) :
    w.cell? ⟨ab, 0, none⟩ = some (.int .i64 way) ∧ w.cell? ⟨ab, 1, none⟩ = some (.int .i64 q) ∧ w.cell? ⟨ab, 2, none⟩ = some (.slice BA BL BC) ∧ w.cell? ⟨ab, 3, none⟩ = some (.slice MA ML MC) :=
  ⟨h.at 0, h.at 1, h.at 2, h.at 3⟩
/-- A slice that was handed in does not lie in a flash that came later. -/
theorem clear_in {w : World} {g m k : Nat} {A : Option Addr} {n : Nat} {zs : List Int} (h : Row w A n zs) (hl : ∀ b, In3 g m k b → w.heap.size ≤ b) : Clear g m k A n := by
  rcases h.2.2 with h0 | ⟨b, off, rfl, hb, _⟩
  · exact .inl h0
  · exact .inr fun x hx e => by
      cases hx
      have := hl _ e
      simp only [] at this
      omega
theorem add_plain (b off i : Nat) : (⟨b, off, none⟩ : Addr).add i = ⟨b, off + i, none⟩ := by unfold Addr.add; split <;> simp_all
theorem plain_at {w : World} {a : Addr} {v : Value} (h : w.cell? (a.add 0) = some v) : ∃ b off, a = ⟨b, off, none⟩ := by
  obtain ⟨b, off, spot⟩ := a
  have hspot : spot = none := by simpa [Addr.add] using World.cell?_spot h
  subst hspot
  exact ⟨b, off, rfl⟩
/-- A number that came in. -/
theorem num_of {H : Type} {enc : TypeId × Value → H} {w : World} {n : Nat} {v : Value} {y : DataW H × List MemPlace} (h : DataW.trod enc Tryz.prog w 0 (fun _ => true) true n 3 [v] = some y) : ∃ i, v = .int .i64 i ∧ I64 i := by
  obtain ⟨i, e, _, hw⟩ := DataW.trod_int Tryz.underlying3 h
  simp only [List.cons.injEq, and_true] at e
  have := bounds_i64 hw
  exact ⟨i, e, by omega, by omega⟩
/-- A row that came in. -/
theorem bytes_of {H : Type} {enc : TypeId × Value → H} {w : World} {n : Nat} {v : Value} {y : DataW H × List MemPlace} (h : DataW.trod enc Tryz.prog w 0 (fun _ => true) true n 34 [v] = some y) : ∃ A L C zs, v = .slice A L C ∧ Row w A L zs ∧ L ≤ C := by
  rcases open_ints Tryz.underlying34 Tryz.underlying5 (by kernel_rfl) h with ⟨hcs, _⟩ | ⟨x, l, c, zs, hcs, _, hl, hm, hz, _, hcell, hwz⟩
  · simp only [List.cons.injEq, and_true] at hcs
    exact ⟨none, 0, 0, [], hcs, row_nil w, Nat.le_refl _⟩
  · simp only [List.cons.injEq, and_true] at hcs
    exact ⟨some x, l, c, zs.take l, hcs, row_of (cap := c) (.inr ⟨x, rfl, hl, hm, by simpa using hz, hcell, hwz⟩), hl⟩
set_option maxRecDepth 100000 in
/-- The calls that came in. -/
theorem acts_of {H : Type} {enc : TypeId × Value → H} {w : World} {fuel : Nat} {a : Option Addr} {len cap : Nat} {x : DataW H × List MemPlace} (h : DataW.trod enc Tryz.prog w 0 (fun _ => true) true fuel 22 [.slice a len cap] = some x) : Acts w a len := by
  have h5 : Tryz.prog.cellsOf 36 = 4 := by kernel_rfl
  have e3 : Tryz.prog.cellsOf 3 = 1 := by kernel_rfl
  have e28 : Tryz.prog.cellsOf 34 = 1 := by kernel_rfl
  by_cases h0 : len = 0
  · exact .inl h0
  rcases Deep.open_slice Tryz.underlying22 h with ⟨hcs, _⟩ | ⟨p, l, c, m, n, D, Pl, hcs, _, hl, hm, hmm, _, hi⟩
  · simp only [List.cons.injEq, Value.slice.injEq, and_true] at hcs
    exact absurd hcs.2.1 h0
  · simp only [List.cons.injEq, Value.slice.injEq, and_true] at hcs
    obtain ⟨rfl, rfl, rfl⟩ := hcs
    rw [if_pos rfl] at hmm
    subst hmm
    rw [h5] at hi
    have each : ∀ i, i < len → ∃ v0 v1 v2 v3, (∀ j, j < 4 → w.cell? ((p.add (i * 4)).add j) = [v0, v1, v2, v3][j]?) ∧ (∃ k, v0 = .int .i64 k ∧ I64 k) ∧ (∃ k, v1 = .int .i64 k ∧ I64 k) ∧ (∃ A L C zs, v2 = .slice A L C ∧ Row w A L zs ∧ L ≤ C) ∧ (∃ A L C zs, v3 = .slice A L C ∧ Row w A L zs ∧ L ≤ C) := by
      intro i hil
      obtain ⟨cs', hc, ht⟩ := hi i (by omega)
      obtain ⟨_, hcl, hat⟩ := World.cells?_some hc
      obtain ⟨xs, n', _, _, _, hxl, hf⟩ := DataW.trod_struct Tryz.underlying36 ht
      match cs', hcl, xs, hxl with
      | [v0, v1, v2, v3], _, [y0, y1, y2, y3], _ =>
        have f0 : DataW.trod enc Tryz.prog w 0 (fun _ => true) true n' 3 (List.take (Tryz.prog.cellsOf 3) [v0, v1, v2, v3]) = some y0 := hf 0 _ rfl
        have f1 : DataW.trod enc Tryz.prog w 0 (fun _ => true) true n' 3 (List.take (Tryz.prog.cellsOf 3) [v1, v2, v3]) = some y1 := hf 1 _ rfl
        have f2 : DataW.trod enc Tryz.prog w 0 (fun _ => true) true n' 34 (List.take (Tryz.prog.cellsOf 34) [v2, v3]) = some y2 := hf 2 _ rfl
        have f3 : DataW.trod enc Tryz.prog w 0 (fun _ => true) true n' 34 (List.take (Tryz.prog.cellsOf 34) [v3]) = some y3 := hf 3 _ rfl
        rw [e3] at f0 f1
        rw [e28] at f2 f3
        exact ⟨v0, v1, v2, v3, hat, num_of (y := y0) f0, num_of (y := y1) f1, bytes_of (y := y2) f2, bytes_of (y := y3) f3⟩
    obtain ⟨v0, v1, v2, v3, hat0, _⟩ := each 0 (by omega)
    have hc0 := hat0 0 (by omega)
    rw [Deep.add_add] at hc0
    obtain ⟨b, off, rfl⟩ := plain_at (v := v0) hc0
    refine .inr ⟨b, off, rfl, fun i hil => ?_⟩
    obtain ⟨v0, v1, v2, v3, hat, ⟨k0, rfl, _⟩, ⟨k1, rfl, i1⟩, ⟨A, L, C, zs, rfl, r1, l1⟩, ⟨A', L', C', zs', rfl, r2, l2⟩⟩ := each i hil
    have c0 := hat 0 (by omega)
    have c1 := hat 1 (by omega)
    have c2 := hat 2 (by omega)
    have c3 := hat 3 (by omega)
    rw [Deep.add_add, add_plain] at c0 c1 c2 c3
    exact ⟨k0, k1, A, L, C, zs, A', L', C', zs', c0, c1, c2, c3, i1, r1, l1, r2, l2⟩
/-! ### Both rings -/
/-- Both flashes, the area of each. -/
structure Pr0 (w : World) (T g m k gr mr kr x y : Nat) (P Q : Pt) (S R : Fs) (wx : World) : Prop where
  f : Fl wx T g m k S
  r : Rl wx T gr mr kr R
  a : Ar wx x g P
  b : Rar wx y gr Q
  low : Below w.heap.size w wx
  top : T ≤ wx.heap.size
/-- Where all lies. -/
structure PrAt (w : World) (T g m k gr mr kr x y : Nat) : Prop where
  lf : ∀ b, In3 g m k b → w.heap.size ≤ b ∧ b < T
  lr : ∀ b, In3 gr mr kr b → w.heap.size ≤ b ∧ b < T
  fr : ∀ b, In3 g m k b → ¬ In3 gr mr kr b
  x : T ≤ x
  y : T ≤ y
theorem Pr0.kept {w wx w' : World} {T g m k gr mr kr x y : Nat} {P Q : Pt} {S R : Fs} (h : Pr0 w T g m k gr mr kr x y P Q S R wx) (hb : Below wx.heap.size wx w') : Pr0 w T g m k gr mr kr x y P Q S R w' :=
  ⟨h.f.kept hb, h.r.kept hb, h.a.kept hb, h.b.kept hb, h.low.trans (hb.mono h.low.size), Nat.le_trans h.top hb.size⟩
theorem PrAt.nf {w : World} {T g m k gr mr kr x y : Nat} (q : PrAt w T g m k gr mr kr x y) {b : Nat} (hb : T ≤ b) : ¬ In3 g m k b := fun e => by have := (q.lf _ e).2; omega
theorem PrAt.nr {w : World} {T g m k gr mr kr x y : Nat} (q : PrAt w T g m k gr mr kr x y) {b : Nat} (hb : T ≤ b) : ¬ In3 gr mr kr b := fun e => by have := (q.lr _ e).2; omega
theorem Pr0.of_f {w wx w' : World} {T g m k gr mr kr x y : Nat} {P Q : Pt} {S R S' : Fs} (h : Pr0 w T g m k gr mr kr x y P Q S R wx) (q : PrAt w T g m k gr mr kr x y) (ht : FlTo T g m k S' wx w') : Pr0 w T g m k gr mr kr x y P Q S' R w' :=
  ⟨ht.1, h.r.only ht.2 (fun b hb => ⟨(q.lf b hb).2, q.fr b hb⟩), Has.only h.a ht.2 (q.nf q.x), Has.only h.b ht.2 (q.nf q.y), h.low.trans (ht.2.to_below h.low.size fun b hb => (q.lf b hb).1), Nat.le_trans h.top ht.2.size⟩
theorem Pr0.of_r {w wx w' : World} {T g m k gr mr kr x y : Nat} {P Q : Pt} {S R R' : Fs} (h : Pr0 w T g m k gr mr kr x y P Q S R wx) (q : PrAt w T g m k gr mr kr x y) (ht : RlTo T gr mr kr R' wx w') : Pr0 w T g m k gr mr kr x y P Q S R' w' :=
  ⟨h.f.only ht.2 (fun b hb => ⟨(q.lr b hb).2, fun x => q.fr b x hb⟩), ht.1, Has.only h.a ht.2 (q.nr q.x), Has.only h.b ht.2 (q.nr q.y), h.low.trans (ht.2.to_below h.low.size fun b hb => (q.lr b hb).1), Nat.le_trans h.top ht.2.size⟩
/-- The two answer alike for d operations. -/
structure Alike (L d : Nat) (S R : Fs) : Prop where
  sim : Sim d S R
  fs : Few S
  fr : Few R
  wl : S.wear.length = L
theorem Alike.less {L d d' : Nat} {S R : Fs} (h : Alike L d S R) (hd : d' ≤ d) : Alike L d' S R := ⟨h.sim.less hd, h.fs, h.fr, h.wl⟩
theorem Alike.wr {L d : Nat} {S R : Fs} (h : Alike L d S R) : R.wear.length = L := by rw [← h.sim.wear]; exact h.wl
theorem al_prog {L d : Nat} {S R : Fs} (h : Alike L (d + 1) S R) (a : Int) (b : List Int) : Alike L d (prog S a b).2 (prog R a b).2 :=
  ⟨(prog_sim h.sim a b).2, few_prog h.fs _ _, few_prog h.fr _ _, by rw [(prog_wears S a b).1]; exact h.wl⟩
theorem al_erase {L d : Nat} {S R : Fs} (h : Alike L (d + 1) S R) (s : Int) : Alike L d (erase S s).2 (erase R s).2 :=
  ⟨(erase_sim h.sim s).2, few_erase h.fs _, few_erase h.fr _, (erase_wears S s).1.trans h.wl⟩
theorem al_power {L d : Nat} {S R : Fs} (h : Alike L d S R) : Alike L d (power S) (power R) := ⟨power_sim h.sim, few_power h.fs, few_power h.fr, h.wl⟩
theorem al_cut {L d : Nat} {S R : Fs} (h : Alike L d S R) (q : Int) (ms : List Int) (hd : d ≤ 1000) : Alike L d (cutAt S (max q 0).toNat (ms.take S.mem.length)) (cutAt R (min (max q 0) 1073741824).toNat ms) :=
  ⟨cutAt_sim h.sim (by omega) ms, few_cut h.fs _ _, few_cut h.fr _ _, h.wl⟩
theorem sec_sim {d : Nat} {S R : Fs} (h : Sim d S R) (P : Pt) (s : Nat) : secL S P s = secL R P s := aRead_sim h P _ _ _
theorem look_sim {d : Nat} {S R : Fs} (h : Sim d S R) (P : Pt) : ∀ k, look S P k = look R P k
  | 0 => rfl
  | k + 1 => by
    have ih := look_sim h P k
    have e := sec_sim h P k
    by_cases h1 : Newer S P (look S P k) k
    · have h2 : Newer R P (look R P k) k := by unfold Newer at *; rw [← ih, ← e]; exact h1
      rw [look_yes h1, look_yes h2, e]
    · have h2 : ¬ Newer R P (look R P k) k := by unfold Newer at *; rw [← ih, ← e]; exact h1
      rw [look_no h1, look_no h2, ih]
theorem hd_sim {d : Nat} {S R : Fs} (h : Sim d S R) (P : Pt) : hdOf S P = hdOf R P := by unfold hdOf; rw [look_sim h]
theorem may_sim {d : Nat} {S R : Fs} (h : Sim d S R) (P : Pt) : MayP S P ↔ MayP R P := by unfold MayP; rw [hd_sim h, aBlank_sim h, aLeft_sim h]
theorem fill_sim {d : Nat} {S R : Fs} (h : Sim (d + 2) S R) (P : Pt) (s : Nat) (c : List Int) : (fillS S P s c).1 = (fillS R P s c).1 ∧ Sim d (fillS S P s c).2 (fillS R P s c).2 := by
  have he := aErase_sim (d := d + 1) h P (s : Int)
  by_cases hb : aBlank S P (s : Int) = true
  · have hb' : aBlank R P (s : Int) = true := by rw [← aBlank_sim h]; exact hb
    rw [fill_blank hb, fill_blank hb']
    exact aProg_sim (h.less (by omega)) P _ _ _
  · have hb0 : aBlank S P (s : Int) = false := by simpa using hb
    have hb1 : aBlank R P (s : Int) = false := by rw [← aBlank_sim h]; exact hb0
    by_cases h0 : (aErase S P (s : Int)).1 = 0
    · rw [fill_two hb0 h0, fill_two hb1 (by rw [← he.1]; exact h0)]
      exact aProg_sim he.2 P _ _ _
    · rw [fill_err hb0 h0, fill_err hb1 (by rw [← he.1]; exact h0)]
      exact ⟨he.1, he.2.less (by omega)⟩
theorem put_sim {d : Nat} {S R : Fs} (h : Sim (d + 2) S R) (P : Pt) (zs : List Int) : (putR S P zs).1 = (putR R P zs).1 ∧ Sim d (putR S P zs).2 (putR R P zs).2 := by
  have hl := h.less (d' := d) (by omega)
  by_cases h4 : 4 ≤ P.cnt
  · by_cases hn : 156 < zs.length
    · rw [put_long h4 hn, put_long h4 hn]; exact ⟨rfl, hl⟩
    · by_cases hm : MayP S P
      · rw [put_does h4 (by omega) hm, put_does h4 (by omega) ((may_sim h P).1 hm), hd_sim h]
        exact fill_sim h P _ _
      · rw [put_worn h4 (by omega) hm, put_worn h4 (by omega) (fun k => hm ((may_sim h P).2 k))]; exact ⟨rfl, hl⟩
  · rw [put_few h4, put_few h4]; exact ⟨rfl, hl⟩
theorem hd_like {P Q : Pt} (h : Like P Q) (R : Fs) : hdOf R Q = hdOf R P := by
  by_cases h4 : 4 ≤ P.cnt
  · rw [h.2 (by omega)]
  · rw [hd_no h4, hd_no (by have := h.1; omega)]
theorem mayR_like {P Q : Pt} (h : Like P Q) (R : Fs) : mayR R Q = mayR R P := by
  by_cases h4 : 4 ≤ P.cnt
  · rw [h.2 (by omega)]
  · rw [mayR_no h4, mayR_no (by have := h.1; omega)]
theorem put_like {P Q : Pt} (h : Like P Q) (R : Fs) (zs : List Int) : putR R Q zs = putR R P zs := by
  by_cases h4 : 4 ≤ P.cnt
  · rw [h.2 (by omega)]
  · rw [put_few h4, put_few (by have := h.1; omega)]
theorem al_hd {L d : Nat} {S R : Fs} {P Q : Pt} (h : Alike L d S R) (hl : Like P Q) : hdOf R Q = hdOf S P := by rw [hd_like hl, hd_sim h.sim]
theorem al_may {L d : Nat} {S R : Fs} {P Q : Pt} (h : Alike L d S R) (hl : Like P Q) : mayR R Q = mayR S P := by
  rw [mayR_like hl]
  by_cases h4 : 4 ≤ P.cnt
  · rw [mayR_yes h4, mayR_yes h4]
    by_cases hm : MayP S P
    · rw [may_yes hm, may_yes ((may_sim h.sim P).1 hm)]
    · rw [may_no hm, may_no (fun k => hm ((may_sim h.sim P).2 k))]
  · rw [mayR_no h4, mayR_no h4]
theorem al_put {L d : Nat} {S R : Fs} {P Q : Pt} (h : Alike L (d + 2) S R) (hl : Like P Q) (zs : List Int) : (putR R Q zs).1 = (putR S P zs).1 ∧ Alike L d (putR S P zs).2 (putR R Q zs).2 := by
  rw [put_like hl]
  have := put_sim h.sim P zs
  exact ⟨this.1.symm, this.2, few_put h.fs _ _, few_put h.fr _ _, (put_wears _ _ _).1.trans h.wl⟩
theorem al_dig {L d : Nat} {S R : Fs} {P Q : Pt} (h : Alike L d S R) (hl : Like P Q) : aDig R Q = aDig S P := by rw [← aDig_like hl R, dRow_sim h.sim]
/-- What stands ahead of each call. -/
def Going (w : World) (T g m k gr mr kr x y : Nat) (P Q : Pt) (L len : Nat) (v : Value) (wr : World) : Prop :=
  ∃ (j : Nat) (S R : Fs), v = .int .i64 (j : Int) ∧ j ≤ len ∧ S.ops ≤ 2 * j ∧ Alike L (2 * (len - j)) S R ∧ Pr0 w T g m k gr mr kr x y P Q S R wr
/-- Behind the switch. -/
def Behind (w : World) (T g m k gr mr kr x y : Nat) (P Q : Pt) (L d ops : Nat) (wx : World) : Prop :=
  ∃ S R, S.ops ≤ ops ∧ Alike L d S R ∧ Pr0 w T g m k gr mr kr x y P Q S R wx
end Go.Proofs.YtcecommnpdfhgaaGreatDoor
