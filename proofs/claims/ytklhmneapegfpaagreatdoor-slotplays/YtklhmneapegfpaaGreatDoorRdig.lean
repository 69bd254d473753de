/-
  The document's Digest of an area; conditions: the area and its flash are there.
-/
import Derived.Test.YtklhmneapegfpaaGreatDoorMAr
namespace Go.Proofs.YtklhmneapegfpaaGreatDoor
open Go.RowKit
set_option linter.unusedVariables false
set_option linter.unusedSimpArgs false

/-- The stream has taken these bytes. -/
def TookD (w : World) (wr : World) (b : Nat) (xs : List Int) : Prop :=
  ∃ v, Has wr b 100 (Sha.rsCells (Sha.run Sha.st0 xs).1 xs.length v) ∧ Sha.Own wr 0 v (Sha.run Sha.st0 xs).2.length (Sha.run Sha.st0 xs).2 ∧ Has wr w.heap.size 47 Sha.zero24 ∧ Below w.heap.size w wr
theorem took_more {w wr w' : World} {b : Nat} {xs zs : List Int} {e : Ending} (hb : w.heap.size < b) (ho : Has wr w.heap.size 47 Sha.zero24) (hB : Below w.heap.size w wr) (h : Sha.RWrote b (Sha.run Sha.st0 xs).1 xs.length (Sha.run Sha.st0 xs).2 zs wr e w') : e = .returned (.tuple #[]) ∧ TookD w w' b (xs ++ zs) := by
  obtain ⟨rfl, v, h1, h2, h3⟩ := h
  refine ⟨rfl, v, ?_, ?_, (h3.block _ ho.size (by intro e; injection e; omega)).trans ho, Sha.below_only hB h3 (by omega) hB.size⟩
  · rw [Sha.run_app, List.length_append]
    exact h1
  · rw [Sha.run_app]
    exact h2.lower (Nat.zero_le _)
theorem took_below {w wr : World} {b : Nat} {xs : List Int} (h : TookD w wr b xs) : Below w.heap.size w wr := by obtain ⟨_, _, _, _, h⟩ := h; exact h
/-- So many sectors are taken. -/
def Secs (w : World) (S : Fs) (P : Pt) (b : Nat) (v : Value) (wr : World) : Prop := ∃ s : Nat, v = .int .i64 (s : Int) ∧ s ≤ P.cnt ∧ TookD w wr b (dSec S P s)
/-- All of them, and so many wears. -/
def Wears (w : World) (S : Fs) (P : Pt) (b : Nat) (v : Value) (wr : World) : Prop := ∃ s : Nat, v = .int .i64 (s : Int) ∧ s ≤ P.cnt ∧ TookD w wr b (dSec S P P.cnt ++ dWear S P s)
theorem took_room {S : Fs} {P : Pt} (hok : S.Ok) {k : Nat} (hb : Byt (dSec S P k)) : (Sha.run Sha.st0 (dSec S P k)).1.Ok ∧ (Sha.run Sha.st0 (dSec S P k)).2.length ≤ 64 :=
  ⟨Sha.run_ok Sha.st0_ok hb, by rw [Sha.run_len Sha.st0_ok hb]; omega⟩
theorem run_room {xs : List Int} (hb : Byt xs) : (Sha.run Sha.st0 xs).1.Ok ∧ (Sha.run Sha.st0 xs).2.length ≤ 64 :=
  ⟨Sha.run_ok Sha.st0_ok hb, by rw [Sha.run_len Sha.st0_ok hb]; omega⟩
set_option maxRecDepth 100000 in
set_option maxHeartbeats 2000000 in
theorem radigest_any {T x g m k : Nat} {S : Fs} {P : Pt} (w : World) (ha : Rar w x g P) (hf : Rl w T g m k S) (hp : P.Ok S.wear.length) (hfew : Few S) (hops : S.ops ≤ 1000000) :
    Calls Tryz.prog 25 #[.pointer (some ⟨x, 0, none⟩)] w fun e w' => e = .returned (.agg (Sha.nums (aDig S P)).toArray) ∧ Below w.heap.size w w' := by
  have hz := Sha.zero24_run
  have hba : Below w.heap.size w (w.alloc (.cells Sha.zero24 47)) := (Below.refl _ _).alloc (Nat.le_refl _) _
  have hout := Lib.hid (has_new w 47 Sha.zero24)
  have HF := Lib.hid hf
  have HA := Lib.hid ha
  have HOK := Lib.hid hf.ok
  have HP := Lib.hid hp
  have h1 := hp.in'
  have h2 := hp.few
  have HSL := Lib.hid (show (aDig S P).length = 32 from rfl)
  have HNW := Lib.hid (Sha.rnew_any (w.alloc (.cells Sha.zero24 47)))
  have HBA := Lib.hid hba
  clear ha hf hba
  go_enter Tryz.func25, Tryz.ntmps25
  go_wp2_with (go_at_call 43; (with_reducible refine HNW.out.mono ?_); rintro e w1 ⟨b, rfl, hbge, hs1, H1⟩)
  have hlt : w.heap.size < b := by simp at hbge; omega
  have hst : Secs w S P b (.int .i64 0) w1 := ⟨0, rfl, Nat.zero_le _, by
    have e : dSec S P 0 = [] := by unfold dSec; rw [Nat.zero_mul, List.take_zero]
    rw [e]
    exact ⟨_, hs1, Sha.own_nil _ _, hout.out.kept H1, HBA.out.trans (H1.mono HBA.out.size)⟩⟩
  clear hs1 H1 HNW hbge hout
  go_loopw [4] (fun v wr => Secs w S P b v wr) (fun v _ => P.cnt - (intOf v).toNat)
  case atStart => exact hst
  case round =>
    clear hst
    obtain ⟨s, rfl, hs, htk⟩ := hrel
    obtain ⟨Wz, rfl⟩ : ∃ x, x = wr := ⟨_, rfl⟩
    obtain ⟨v, hH, hO, hZ, hB⟩ := htk
    obtain ⟨c0, c1, c2, c3⟩ := ra_cells (HA.out.kept hB)
    have s0 : (0 : Int) ≤ (s : Int) := by omega
    by_cases hlt2 : s < P.cnt
    · have s1 : (s : Int) < (P.cnt : Int) := by omega
      have q1 : IntKind.i64.wrap ((P.fst : Int) + (s : Int)) = (P.fst : Int) + (s : Int) := by rw [IntKind.wrap_i64]; omega
      have q2 : IntKind.i64.wrap (((P.fst : Int) + (s : Int)) * 320) = ((P.fst : Int) + (s : Int)) * 320 := by rw [IntKind.wrap_i64]; omega
      have HH := Lib.hid hH
      have HO := Lib.hid hO
      have HZ := Lib.hid hZ
      have HB := Lib.hid hB
      have HRD := Lib.hid (rread_any (((P.fst : Int) + (s : Int)) * 320) 320 Wz.drew ⟨by omega, by omega⟩ ⟨by omega, by omega⟩ (HF.out.kept hB.drew))
      have HMO := Lib.hid (dSec_more HOK.out HP.out hlt2)
      have HRL := Lib.hid (show (read S (((P.fst : Int) + (s : Int)) * 320) 320).length = 320 by
        have e : (((P.fst : Int) + (s : Int)) * 320) = (((P.fst + s) * 320 : Nat) : Int) := by omega
        have hl := HOK.out.len
        rw [e]
        exact read_len (n := 320) (by omega) (by omega))
      have HRM := Lib.hid (run_room (dSec_byt HOK.out P s))
      have HXL := Lib.hid (dSec_len HOK.out HP.out (Nat.le_of_lt hlt2))
      generalize read S (((P.fst : Int) + (s : Int)) * 320) 320 = rd at *
      clear hH hO hZ hB
      have HS7 := Lib.hid (show Rar Wz.drew x g P from HA.out.kept HB.out.drew)
      go_wp2_with fail
      refine wp_region_held_drew (S := fun W => Rar W x g P) (by kernel_rfl) HS7.out ?_
      intro _
      refine wpAnyH_take (i := 0) (v := .pointer (some ⟨b, 0, none⟩)) rfl (by kernel_rfl) (by kernel_rfl) (by kernel_rfl) (fun _ _ _ h => h) (Or.inl ⟨by rfl, (fun W _ => by go_simp)⟩) HS7.out ?_
      simp only [List.getElem_toArray, List.getElem_cons_succ, List.getElem_cons_zero, Act.put, List.setIfInBounds_toArray, List.set_cons_zero, List.set_cons_succ]
      refine wpAnyH_take (i := 1) (v := .pointer (some ⟨x, 0, none⟩)) rfl (by kernel_rfl) (by kernel_rfl) (by kernel_rfl) (fun _ _ _ h => h) (Or.inl ⟨by rfl, (fun W _ => by go_simp)⟩) HS7.out ?_
      simp only [List.getElem_toArray, List.getElem_cons_succ, List.getElem_cons_zero, Act.put, List.setIfInBounds_toArray, List.set_cons_zero, List.set_cons_succ]
      refine wpAnyH_take (i := 2) (v := .pointer (some ⟨x, 0, none⟩)) rfl (by kernel_rfl) (by kernel_rfl) (by kernel_rfl) (fun _ _ _ h => h) (Or.inl ⟨by rfl, (fun W _ => by go_simp)⟩) HS7.out ?_
      simp only [List.getElem_toArray, List.getElem_cons_succ, List.getElem_cons_zero, Act.put, List.setIfInBounds_toArray, List.set_cons_zero, List.set_cons_succ]
      refine wpAnyH_take (i := 3) (v := .pointer (some ⟨x, 0, none⟩)) rfl (by kernel_rfl) (by kernel_rfl) (by kernel_rfl) (fun _ _ _ h => h) (Or.inl ⟨by rfl, (fun W _ => by go_simp)⟩) HS7.out ?_
      simp only [List.getElem_toArray, List.getElem_cons_succ, List.getElem_cons_zero, Act.put, List.setIfInBounds_toArray, List.set_cons_zero, List.set_cons_succ]
      refine wpAnyH_take (i := 4) (v := .pointer (some ⟨g, 0, none⟩)) rfl (by kernel_rfl) (by kernel_rfl) (by kernel_rfl) (fun _ _ _ h => h) (Or.inl ⟨by rfl, (fun W hW => by obtain ⟨y0, y1, y2, y3⟩ := ra_cells hW; go_simp)⟩) HS7.out ?_
      simp only [List.getElem_toArray, List.getElem_cons_succ, List.getElem_cons_zero, Act.put, List.setIfInBounds_toArray, List.set_cons_zero, List.set_cons_succ]
      refine wpAnyH_take (i := 5) (v := .pointer (some ⟨x, 0, none⟩)) rfl (by kernel_rfl) (by kernel_rfl) (by kernel_rfl) (fun _ _ _ h => h) (Or.inl ⟨by rfl, (fun W _ => by go_simp)⟩) HS7.out ?_
      simp only [List.getElem_toArray, List.getElem_cons_succ, List.getElem_cons_zero, Act.put, List.setIfInBounds_toArray, List.set_cons_zero, List.set_cons_succ]
      refine wpAnyH_take (i := 6) (v := .pointer (some ⟨x, 0, none⟩)) rfl (by kernel_rfl) (by kernel_rfl) (by kernel_rfl) (fun _ _ _ h => h) (Or.inl ⟨by rfl, (fun W _ => by go_simp)⟩) HS7.out ?_
      simp only [List.getElem_toArray, List.getElem_cons_succ, List.getElem_cons_zero, Act.put, List.setIfInBounds_toArray, List.set_cons_zero, List.set_cons_succ]
      refine wpAnyH_take (i := 7) (v := .pointer (some ⟨x, 1, none⟩)) rfl (by kernel_rfl) (by kernel_rfl) (by kernel_rfl) (fun _ _ _ h => h) (Or.inl ⟨by rfl, (fun W _ => by go_simp)⟩) HS7.out ?_
      simp only [List.getElem_toArray, List.getElem_cons_succ, List.getElem_cons_zero, Act.put, List.setIfInBounds_toArray, List.set_cons_zero, List.set_cons_succ]
      refine wpAnyH_take (i := 8) (v := .int .i64 (P.fst : Int)) rfl (by kernel_rfl) (by kernel_rfl) (by kernel_rfl) (fun _ _ _ h => h) (Or.inl ⟨by rfl, (fun W hW => by obtain ⟨y0, y1, y2, y3⟩ := ra_cells hW; go_simp)⟩) HS7.out ?_
      simp only [List.getElem_toArray, List.getElem_cons_succ, List.getElem_cons_zero, Act.put, List.setIfInBounds_toArray, List.set_cons_zero, List.set_cons_succ]
      refine wpAnyH_take (i := 9) (v := .int .i64 (s : Int)) rfl (by kernel_rfl) (by kernel_rfl) (by kernel_rfl) (fun _ _ _ h => h) (Or.inl ⟨by rfl, (fun W _ => by go_simp)⟩) HS7.out ?_
      simp only [List.getElem_toArray, List.getElem_cons_succ, List.getElem_cons_zero, Act.put, List.setIfInBounds_toArray, List.set_cons_zero, List.set_cons_succ]
      refine wpAnyH_take (i := 10) (v := .int .i64 ((P.fst : Int) + (s : Int))) rfl (by kernel_rfl) (by kernel_rfl) (by kernel_rfl) (fun _ _ _ h => h) (Or.inl ⟨by rfl, (fun W _ => by go_simp)⟩) HS7.out ?_
      simp only [List.getElem_toArray, List.getElem_cons_succ, List.getElem_cons_zero, Act.put, List.setIfInBounds_toArray, List.set_cons_zero, List.set_cons_succ]
      refine wpAnyH_take (i := 11) (v := .int .i64 (((P.fst : Int) + (s : Int)) * 320)) rfl (by kernel_rfl) (by kernel_rfl) (by kernel_rfl) (fun _ _ _ h => h) (Or.inl ⟨by rfl, (fun W _ => by go_simp)⟩) HS7.out ?_
      simp only [List.getElem_toArray, List.getElem_cons_succ, List.getElem_cons_zero, Act.put, List.setIfInBounds_toArray, List.set_cons_zero, List.set_cons_succ]
      refine wpAnyH_ready (rs := [12]) (by kernel_rfl) (by simp) ?_
      refine AllReadyH.cons rfl (fun K hK => ?_) AllReadyH.nil
      go_simp
      refine (HRD.out).mono ?_
      rintro e w4 ⟨A4, c4, rfl, hc4, r4, hA4, b4⟩
      rw [HRL.out] at hc4 r4 ⊢
      have HWR := Lib.hid (Sha.rwrite_any b (dSec S P s).length _ v _ A4 320 c4 rd w4 HRM.out.1 (HH.out.kept (((Below.refl _ Wz).drew).trans b4)) (HO.out.kept (((Below.refl _ Wz).drew).trans b4)) (row_sha r4) hc4 (fun _ x hx e => by have h5 := hA4 x hx; have h6 := HH.out.size; rw [e] at h5; simp at h5; omega) (by have := HXL.out; omega) (by have := HRM.out.2; omega))
      have HS8 := Lib.hid (HS7.out.kept b4)
      refine hK.out _ _ HS8.out (fun _ => ?_)
      clear hK K
      refine wpAnyH_ready (rs := [13]) (by kernel_rfl) (by simp) ?_
      refine AllReadyH.cons rfl (fun K hK => ?_) AllReadyH.nil
      go_simp
      refine (HWR.out).mono ?_
      intro e w5 hw5
      have HT5 := Lib.hid (took_more hlt (HZ.out.kept (((Below.refl _ Wz).drew).trans b4)) (HB.out.trans ((((Below.refl _ Wz).drew).trans b4).mono HB.out.size)) hw5)
      obtain rfl := HT5.out.1
      have HS9 := Lib.hid (HA.out.kept (took_below HT5.out.2))
      refine hK.out _ _ HS9.out (fun _ => ?_)
      clear hK K
      refine wpAnyH_done (by kernel_rfl) ?_ _
      go_wp2_with fail
      have HT6 := Lib.hid HT5.out.2
      rw [← HMO.out] at HT6
      go_roundw
      case rel => exact ⟨s + 1, by go_num, by omega, HT6.out⟩
      case measure => simp [intOf]; omega
    · obtain rfl : s = P.cnt := by omega
      have hst2 : Wears w S P b (.int .i64 0) Wz := ⟨0, rfl, Nat.zero_le _, by
        show TookD w Wz b (dSec S P P.cnt ++ [])
        rw [List.append_nil]
        exact ⟨v, hH, hO, hZ, hB⟩⟩
      clear hH hO hZ hB
      go_wp2_with fail
      go_loopw [5] (fun v wr => Wears w S P b v wr) (fun v _ => P.cnt - (intOf v).toNat)
      case atStart => exact hst2
      case round =>
        clear hst2 c0 c1 c2 c3
        obtain ⟨s, rfl, hs, htk⟩ := hrel
        obtain ⟨Wy, rfl⟩ : ∃ x, x = wr := ⟨_, rfl⟩
        obtain ⟨v, hH, hO, hZ, hB⟩ := htk
        obtain ⟨c0, c1, c2, c3⟩ := ra_cells (HA.out.kept hB)
        have s0 : (0 : Int) ≤ (s : Int) := by omega
        have HBY := Lib.hid (byt_app (dSec_byt HOK.out P P.cnt) (dWear_byt hfew hops P s))
        have HRM := Lib.hid (run_room HBY.out)
        have HXL := Lib.hid (show (dSec S P P.cnt ++ dWear S P s).length = P.cnt * 320 + 4 * s by rw [List.length_append, dSec_len HOK.out HP.out (Nat.le_refl _), dWear_len])
        have HH := Lib.hid hH
        have HO := Lib.hid hO
        have HZ := Lib.hid hZ
        have HB := Lib.hid hB
        by_cases hlt2 : s < P.cnt
        · have s1 : (s : Int) < (P.cnt : Int) := by omega
          have q1 : IntKind.i64.wrap ((P.fst : Int) + (s : Int)) = (P.fst : Int) + (s : Int) := by rw [IntKind.wrap_i64]; omega
          have HWE := Lib.hid (rwear_any ((P.fst : Int) + (s : Int)) Wy.drew (HF.out.kept hB.drew))
          have hword := wear_word hfew hops ((P.fst : Int) + (s : Int))
          have HDN := Lib.hid (show dWear S P (s + 1) = dWear S P s ++ Sha.bytes4 (wearAt S ((P.fst : Int) + (s : Int))) from rfl)
          generalize wearAt S ((P.fst : Int) + (s : Int)) = wv at *
          have q2 : IntKind.u32.wrap wv = wv := by rw [IntKind.wrap_u32]; omega
          have HB4 := Lib.hid (Sha.rbytes_any wv Wy.drew hword)
          have hrw := Lib.hid (show Row (Wy.drew.alloc (.cells ((Sha.bytes4 wv).map (Value.int .u8)).toArray 5)) (some ⟨Wy.heap.size, 0, none⟩) 4 (Sha.bytes4 wv) from row_text Wy.drew (Sha.bytes4 wv) (Sha.bytes4_bd hword) 4 rfl (0, 0))
          have HAL := Lib.hid (show Below Wy.heap.size Wy (Wy.drew.alloc (.cells ((Sha.bytes4 wv).map (Value.int .u8)).toArray 5)) from ((Below.refl _ Wy).drew).alloc (Nat.le_refl _) _)
          have HWR := Lib.hid (Sha.rwrite_any b (dSec S P P.cnt ++ dWear S P s).length _ v _ (some ⟨Wy.heap.size, 0, none⟩) 4 4 (Sha.bytes4 wv) (Wy.drew.alloc (.cells ((Sha.bytes4 wv).map (Value.int .u8)).toArray 5)) HRM.out.1 (HH.out.kept HAL.out) (HO.out.kept HAL.out) (row_sha hrw.out) (Nat.le_refl _) (fun _ x hx e => by cases hx; have := HH.out.size; simp at e; omega) (by have := HXL.out; omega) (by have := HRM.out.2; omega))
          clear hH hO hZ hB
          have HS7 := Lib.hid (show Rar Wy.drew x g P from HA.out.kept HB.out.drew)
          go_wp2_with fail
          refine wp_region_held_drew (S := fun W => Rar W x g P) (by kernel_rfl) HS7.out ?_
          intro _
          refine wpAnyH_take (i := 0) (v := .pointer (some ⟨b, 0, none⟩)) rfl (by kernel_rfl) (by kernel_rfl) (by kernel_rfl) (fun _ _ _ h => h) (Or.inl ⟨by rfl, (fun W _ => by go_simp)⟩) HS7.out ?_
          simp only [List.getElem_toArray, List.getElem_cons_succ, List.getElem_cons_zero, Act.put, List.setIfInBounds_toArray, List.set_cons_zero, List.set_cons_succ]
          refine wpAnyH_take (i := 1) (v := .pointer (some ⟨x, 0, none⟩)) rfl (by kernel_rfl) (by kernel_rfl) (by kernel_rfl) (fun _ _ _ h => h) (Or.inl ⟨by rfl, (fun W _ => by go_simp)⟩) HS7.out ?_
          simp only [List.getElem_toArray, List.getElem_cons_succ, List.getElem_cons_zero, Act.put, List.setIfInBounds_toArray, List.set_cons_zero, List.set_cons_succ]
          refine wpAnyH_take (i := 2) (v := .pointer (some ⟨x, 0, none⟩)) rfl (by kernel_rfl) (by kernel_rfl) (by kernel_rfl) (fun _ _ _ h => h) (Or.inl ⟨by rfl, (fun W _ => by go_simp)⟩) HS7.out ?_
          simp only [List.getElem_toArray, List.getElem_cons_succ, List.getElem_cons_zero, Act.put, List.setIfInBounds_toArray, List.set_cons_zero, List.set_cons_succ]
          refine wpAnyH_take (i := 3) (v := .pointer (some ⟨x, 0, none⟩)) rfl (by kernel_rfl) (by kernel_rfl) (by kernel_rfl) (fun _ _ _ h => h) (Or.inl ⟨by rfl, (fun W _ => by go_simp)⟩) HS7.out ?_
          simp only [List.getElem_toArray, List.getElem_cons_succ, List.getElem_cons_zero, Act.put, List.setIfInBounds_toArray, List.set_cons_zero, List.set_cons_succ]
          refine wpAnyH_take (i := 4) (v := .pointer (some ⟨g, 0, none⟩)) rfl (by kernel_rfl) (by kernel_rfl) (by kernel_rfl) (fun _ _ _ h => h) (Or.inl ⟨by rfl, (fun W hW => by obtain ⟨y0, y1, y2, y3⟩ := ra_cells hW; go_simp)⟩) HS7.out ?_
          simp only [List.getElem_toArray, List.getElem_cons_succ, List.getElem_cons_zero, Act.put, List.setIfInBounds_toArray, List.set_cons_zero, List.set_cons_succ]
          refine wpAnyH_take (i := 5) (v := .pointer (some ⟨x, 0, none⟩)) rfl (by kernel_rfl) (by kernel_rfl) (by kernel_rfl) (fun _ _ _ h => h) (Or.inl ⟨by rfl, (fun W _ => by go_simp)⟩) HS7.out ?_
          simp only [List.getElem_toArray, List.getElem_cons_succ, List.getElem_cons_zero, Act.put, List.setIfInBounds_toArray, List.set_cons_zero, List.set_cons_succ]
          refine wpAnyH_take (i := 6) (v := .pointer (some ⟨x, 0, none⟩)) rfl (by kernel_rfl) (by kernel_rfl) (by kernel_rfl) (fun _ _ _ h => h) (Or.inl ⟨by rfl, (fun W _ => by go_simp)⟩) HS7.out ?_
          simp only [List.getElem_toArray, List.getElem_cons_succ, List.getElem_cons_zero, Act.put, List.setIfInBounds_toArray, List.set_cons_zero, List.set_cons_succ]
          refine wpAnyH_take (i := 7) (v := .pointer (some ⟨x, 1, none⟩)) rfl (by kernel_rfl) (by kernel_rfl) (by kernel_rfl) (fun _ _ _ h => h) (Or.inl ⟨by rfl, (fun W _ => by go_simp)⟩) HS7.out ?_
          simp only [List.getElem_toArray, List.getElem_cons_succ, List.getElem_cons_zero, Act.put, List.setIfInBounds_toArray, List.set_cons_zero, List.set_cons_succ]
          refine wpAnyH_take (i := 8) (v := .int .i64 (P.fst : Int)) rfl (by kernel_rfl) (by kernel_rfl) (by kernel_rfl) (fun _ _ _ h => h) (Or.inl ⟨by rfl, (fun W hW => by obtain ⟨y0, y1, y2, y3⟩ := ra_cells hW; go_simp)⟩) HS7.out ?_
          simp only [List.getElem_toArray, List.getElem_cons_succ, List.getElem_cons_zero, Act.put, List.setIfInBounds_toArray, List.set_cons_zero, List.set_cons_succ]
          refine wpAnyH_take (i := 9) (v := .int .i64 (s : Int)) rfl (by kernel_rfl) (by kernel_rfl) (by kernel_rfl) (fun _ _ _ h => h) (Or.inl ⟨by rfl, (fun W _ => by go_simp)⟩) HS7.out ?_
          simp only [List.getElem_toArray, List.getElem_cons_succ, List.getElem_cons_zero, Act.put, List.setIfInBounds_toArray, List.set_cons_zero, List.set_cons_succ]
          refine wpAnyH_take (i := 10) (v := .int .i64 ((P.fst : Int) + (s : Int))) rfl (by kernel_rfl) (by kernel_rfl) (by kernel_rfl) (fun _ _ _ h => h) (Or.inl ⟨by rfl, (fun W _ => by go_simp)⟩) HS7.out ?_
          simp only [List.getElem_toArray, List.getElem_cons_succ, List.getElem_cons_zero, Act.put, List.setIfInBounds_toArray, List.set_cons_zero, List.set_cons_succ]
          refine wpAnyH_ready (rs := [11]) (by kernel_rfl) (by simp) ?_
          refine AllReadyH.cons rfl (fun K hK => ?_) AllReadyH.nil
          go_simp
          refine (HWE.out).mono ?_
          rintro e w3 ⟨rfl, rfl⟩
          refine hK.out _ _ HS7.out (fun _ => ?_)
          clear hK K
          refine wpAnyH_take (i := 12) (v := .int .u32 wv) rfl (by kernel_rfl) (by kernel_rfl) (by kernel_rfl) (fun _ _ _ h => h) (Or.inl ⟨by rfl, (fun W _ => by go_simp)⟩) HS7.out ?_
          simp only [List.getElem_toArray, List.getElem_cons_succ, List.getElem_cons_zero, Act.put, List.setIfInBounds_toArray, List.set_cons_zero, List.set_cons_succ]
          refine wpAnyH_ready (rs := [13]) (by kernel_rfl) (by simp) ?_
          refine AllReadyH.cons rfl (fun K hK => ?_) AllReadyH.nil
          go_simp
          refine (HB4.out).mono ?_
          rintro e w4 ⟨rfl, rfl⟩
          have HS8 := Lib.hid (HA.out.kept (HB.out.trans (HAL.out.mono HB.out.size)))
          refine hK.out _ _ HS8.out (fun _ => ?_)
          clear hK K
          refine wpAnyH_ready (rs := [14]) (by kernel_rfl) (by simp) ?_
          refine AllReadyH.cons rfl (fun K hK => ?_) AllReadyH.nil
          go_simp
          refine (HWR.out).mono ?_
          intro e w5 hw5
          have HT5 := Lib.hid (took_more hlt (HZ.out.kept HAL.out) (HB.out.trans (HAL.out.mono HB.out.size)) hw5)
          obtain rfl := HT5.out.1
          have HS9 := Lib.hid (HA.out.kept (took_below HT5.out.2))
          refine hK.out _ _ HS9.out (fun _ => ?_)
          clear hK K
          refine wpAnyH_done (by kernel_rfl) ?_ _
          go_wp2_with fail
          have HT6 := Lib.hid HT5.out.2
          rw [List.append_assoc, ← HDN.out] at HT6
          go_roundw
          case rel => exact ⟨s + 1, by go_num, by omega, HT6.out⟩
          case measure => simp [intOf]; omega
        · obtain rfl : s = P.cnt := by omega
          have HSM := Lib.hid (Sha.rsum_any b _ _ v _ Wy HRM.out.1 hH hO (Sha.run_len Sha.st0_ok HBY.out) (by have := HXL.out; omega))
          have HDE := Lib.hid (show Sha.sumI (Sha.run Sha.st0 (dSec S P P.cnt ++ dWear S P P.cnt)).1 (dSec S P P.cnt ++ dWear S P P.cnt).length (Sha.run Sha.st0 (dSec S P P.cnt ++ dWear S P P.cnt)).2 = aDig S P from rfl)
          rw [HDE.out] at HSM
          obtain ⟨dig, hdig⟩ : ∃ d, aDig S P = d := ⟨_, rfl⟩
          rw [hdig] at HSM HSL
          have HDG := Lib.hid hdig
          clear hdig hH hO hZ hB
          go_wp2_with (first
            | (go_at_call 45; (with_reducible refine HSM.out.mono ?_); rintro e w9 ⟨rfl, H9⟩; have hO9 := HZ.out.kept H9; have hB9 := HB.out.trans (H9.mono HB.out.size))
            | (refine wpList_store_row rfl 47 _ _ rfl w.heap.size (Sha.nums dig).toArray rfl rfl 47 _ hO9 (Sha.size24 HSL.out) (by rw [Sha.zero24_size, List.size_toArray, Sha.nums_len, HSL.out]) (Sha.nums_all _) ?_))
          exact bodyPost_ret (results_cell_row rfl _ _ w.heap.size 47 (Sha.nums dig).toArray (0, 0) _ rfl (setRow_heap _ _ _ _ _ _ hO9) Tryz.underlying47 rfl (Sha.size24 HSL.out)) rfl ⟨by rw [HDG.out], below_setRow hB9 (Nat.le_refl _) _⟩
end Go.Proofs.YtklhmneapegfpaaGreatDoor
