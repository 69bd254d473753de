/-
  The parts that a row of configs gets, or which error: the document's own answer; conditions: the row lies in old memory, its configs are ones that may come in.
-/
import Derived.Test.YtljkngalnoepmaaDe
import Derived.Test.YtljkngalnoepmaaRr
namespace Go.Proofs.Ytljkngalnoepmaa
open Go.RowKit
set_option linter.unusedVariables false
set_option linter.unusedSimpArgs false

theorem rneed_is {c : Cf} {d : Int} (h : needN c = d) (w : World) : Calls Try.prog 17 #[.agg c.cells] w fun e w' => e = .returned (.int .i64 d) ∧ Below w.heap.size w w' := by
  rw [← h]
  exact rneed_any c w
set_option maxRecDepth 100000 in
set_option maxHeartbeats 4000000 in
theorem rdeal_any (a : Option Addr) (n cap : Nat) (cs : List Cf) (B : Nat) (w : World) (hr : Cfs w B a n cs) (hB : B ≤ w.heap.size) (hok : ∀ c ∈ cs, c.Ok) (hn : n ≤ maxLen) :
    Calls Try.prog 10 #[.slice a n cap] w fun e w' => Dealt w.heap.size cs e w' ∧ Below w.heap.size w w' := by
  have HR := Lib.hid hr
  have HL := Lib.hid hr.2
  have HOK := Lib.hid hok
  clear hr hok hn
  by_cases h0 : n < 1
  · have EF := Lib.hid (err_arg (cs := cs) (by rw [HL.out, win_lo (show ((n : Nat) : Int) < 1 by omega)]; rfl))
    go_enter Try.func10, Try.ntmps10
    go_wp2
    go_ret2
    exact ⟨dealt_not _ EF.out, Below.refl _ _⟩
  by_cases h8 : 8 < n
  · have EF := Lib.hid (err_arg (cs := cs) (by rw [HL.out, win_hi (show 8 < ((n : Nat) : Int) by omega)]; rfl))
    have d8 : decide ((8 : Int) < (n : Int)) = true := decide_eq_true (by omega)
    go_enter Try.func10, Try.ntmps10
    go_wp2
    go_ret2
    exact ⟨dealt_not _ EF.out, Below.refl _ _⟩
  have E0 := Lib.hid (show winB (n : Int) 1 8 = true from win_yes (by omega) (by omega))
  have d8 : decide ((8 : Int) < (n : Int)) = false := decide_eq_false (by omega)
  go_enter Try.func10, Try.ntmps10
  go_wp2
  go_loopw [4] (fun i wr => ∃ k : Nat, Below w.heap.size w wr ∧ i = .int .i64 (k : Int) ∧ k ≤ n ∧ Hid ((cs.take k).all rightB = true)) (fun i _ => n - (intOf i).toNat)
  case atStart => exact ⟨0, Below.refl _ _, rfl, Nat.zero_le _, Lib.hid rfl⟩
  case round =>
    obtain ⟨k, hb, rfl, hk, HA⟩ := hrel
    by_cases h : k < n
    · obtain ⟨b, off, rfl, hbB, hrun⟩ := (HR.out.1.kept (hb.mono hB)).open (by omega)
      obtain ⟨c, hc⟩ : ∃ c, cs[k]? = some c := ⟨_, List.getElem?_eq_getElem (show k < cs.length by have := HL.out; omega)⟩
      have HC := Lib.hid hc
      have cl := (cfs_see hrun hc).ld
      have HB := Lib.hid hb
      have HI := Lib.hid (rright_any c wr (HOK.out c (List.mem_of_getElem? hc)))
      clear hrun hc hbB hb
      cases e : rightB c with
      | false =>
        have EF := Lib.hid (err_arg (cs := cs) (by rw [all_bad HC.out e, Bool.and_false]))
        rw [e] at HI
        clear e
        go_wp2_with (first
          | (refine wpList_ld 38 _ rfl _ _ cl rfl rfl ?_; clear cl)
          | (go_at_call 15; (with_reducible refine HI.out.mono ?_); rintro e2 w2 ⟨rfl, b2⟩; clear HI; have B2 := Lib.hid (belowThen HB.out b2 HB.out.size); clear b2))
        go_ret2
        exact ⟨dealt_not _ EF.out, B2.out⟩
      | true =>
        rw [e] at HI
        have E := Lib.hid e
        clear e
        go_wp2_with (first
          | (refine wpList_ld 38 _ rfl _ _ cl rfl rfl ?_; clear cl)
          | (go_at_call 15; (with_reducible refine HI.out.mono ?_); rintro e2 w2 ⟨rfl, b2⟩; clear HI; have B2 := Lib.hid (belowThen HB.out b2 HB.out.size); clear b2))
        go_roundw
        case rel => exact ⟨k + 1, B2.out, by go_num, by omega, Lib.hid (all_take HA.out HC.out E.out)⟩
        case measure => simp [intOf]; omega
    · have E1 := Lib.hid (all_end HA.out (by have := HL.out; omega))
      have HB := Lib.hid hb
      have hkn : k = n := by omega
      subst hkn
      clear HA hb hk h
      obtain ⟨wa, rfl⟩ : ∃ x, x = wr := ⟨_, rfl⟩
      go_wp2
      go_loopw [5, 6, 7] (fun v s i wr => ∃ m : Nat, Below w.heap.size w wr ∧ i = .int .i64 (m : Int) ∧ m ≤ k ∧ s = .int .i64 (sumN (cs.take m)) ∧ OwnP wr w.heap.size v m (layL (cs.take m) 0) ∧ Hid (Lone cs m)) (fun _ _ i _ => k - (intOf i).toNat)
      case atStart => exact ⟨0, HB.out, rfl, Nat.zero_le _, rfl, World.ownsRow_nil _ _ _ _, Lib.hid (lone_zero _)⟩
      case round =>
        obtain ⟨m, hb, rfl, hm, rfl, ho, HA⟩ := hrel
        by_cases h : m < k
        · obtain ⟨b, off, rfl, hbB, hrun⟩ := (HR.out.1.kept (hb.mono hB)).open (by omega)
          obtain ⟨c, hc⟩ : ∃ c, cs[m]? = some c := ⟨_, List.getElem?_eq_getElem (show m < cs.length by have := HL.out; omega)⟩
          have HC := Lib.hid hc
          have HB1 := Lib.hid hb
          have HRN := Lib.hid hrun
          have HBB := Lib.hid hbB
          have HO := Lib.hid ho
          clear hrun hc hbB hb ho
          obtain ⟨wb, rfl⟩ : ∃ x, x = wr := ⟨_, rfl⟩
          go_wp2
          go_loopw [8] (fun j wr => ∃ q : Nat, Below wb.heap.size wb wr ∧ j = .int .i64 (q : Int) ∧ q ≤ m ∧ Hid (Other cs c q)) (fun j _ => m - (intOf j).toNat)
          case atStart => exact ⟨0, Below.refl _ _, rfl, Nat.zero_le _, Lib.hid (other_zero _ _)⟩
          case round =>
            obtain ⟨q, hb, rfl, hq, HOT⟩ := hrel
            have HQ := Lib.hid hb
            by_cases h' : q < m
            · obtain ⟨d, hd⟩ : ∃ d, cs[q]? = some d := ⟨_, List.getElem?_eq_getElem (show q < cs.length by have := HL.out; omega)⟩
              have HD := Lib.hid hd
              have hrun := run_below HRN.out (hb.mono (Nat.le_trans hB HB1.out.size)) HBB.out
              have n1 := (cfs_see hrun hd).c0
              have n2 := (cfs_see hrun HC.out).c0
              clear hrun hd hb
              by_cases e : c.name = d.name
              · have EF := Lib.hid (err_name (cs := cs) (by rw [HL.out]; exact E0.out) E1.out (share_yes ⟨m, q, c, d, h', HC.out, HD.out, e⟩))
                have e1 := name_eq e.symm
                clear e
                have x1 : (q : Int) < (k : Int) := by omega
                have x2 : (m : Int) < (k : Int) := by omega
                go_wp2
                go_region
                go_wp2
                go_ret2
                exact ⟨dealt_not _ EF.out, (HB1.out.trans (HQ.out.mono HB1.out.size)).drew⟩
              · have NE := Lib.hid e
                have e1 := name_ne (fun x : d.name = c.name => e x.symm)
                clear e
                have x1 : (q : Int) < (k : Int) := by omega
                have x2 : (m : Int) < (k : Int) := by omega
                go_wp2
                go_region
                go_wp2
                go_roundw
                case rel => exact ⟨q + 1, HQ.out.drew, by go_num, by omega, Lib.hid (other_step HOT.out HD.out NE.out)⟩
                case measure => simp [intOf]; omega
            · have e : q = m := by omega
              subst e
              have LN := Lib.hid (lone_step HA.out HC.out HOT.out)
              have B1 := Lib.hid (HB1.out.trans (hb.mono HB1.out.size))
              have HB2 := Lib.hid B1.out
              have HR1 := Lib.hid (run_below HRN.out (hb.mono (Nat.le_trans hB HB1.out.size)) HBB.out)
              have HBR : Hid (b < wr.heap.size) := Lib.hid (by have := B1.out.size; have := HBB.out; omega)
              have O1 := Lib.hid (own_kept HO.out hb)
              have HN := Lib.hid (sumN_in (cs.take q))
              have hlen : (cs.take q).length ≤ 8 := by rw [List.length_take]; omega
              obtain ⟨s, hs⟩ : ∃ s, sumN (cs.take q) = s := ⟨_, rfl⟩
              obtain ⟨d, hd, hd0⟩ : ∃ d, needN c = d ∧ 4 ≤ d ∧ d ≤ 16 := ⟨_, rfl, need_in c⟩
              have hs0 : 0 ≤ s ∧ s ≤ 128 := by have := HN.out; omega
              have HD := Lib.hid hd
              have HS := Lib.hid hs
              obtain ⟨hs1, hs2⟩ := hs0
              obtain ⟨hd1, hd2⟩ := hd0
              rw [hs]
              clear hb hlen hd hs HOT HA hq h'
              go_wp2
              have HS0 : Hid (wr.drew.rangeAt b off (cfs cs)) := Lib.hid HR1.out
              have HNE := Lib.hid (fun W => rneed_is HD.out W)
              have x2 : (q : Int) < (k : Int) := by omega
              refine wp_region_held_drew (S := fun W => W.rangeAt b off (cfs cs)) (by kernel_rfl) HS0.out ?_
              intro _
              refine wpAnyH_take (i := 0) (v := u5) rfl (by kernel_rfl) (by kernel_rfl) (by kernel_rfl) (fun _ _ _ h => h) (Or.inl ⟨by rfl, (fun W _ => by go_simp)⟩) HS0.out ?_
              simp only [List.getElem_toArray, List.getElem_cons_succ, List.getElem_cons_zero, Act.put, List.setIfInBounds_toArray, List.set_cons_zero, List.set_cons_succ]
              refine wpAnyH_take (i := 1) (v := .slice (some ⟨b, off, none⟩) k cap) rfl (by kernel_rfl) (by kernel_rfl) (by kernel_rfl) (fun _ _ _ h => h) (Or.inl ⟨by rfl, (fun W _ => by go_simp)⟩) HS0.out ?_
              simp only [List.getElem_toArray, List.getElem_cons_succ, List.getElem_cons_zero, Act.put, List.setIfInBounds_toArray, List.set_cons_zero, List.set_cons_succ]
              refine wpAnyH_take (i := 2) (v := .int .i64 (q : Int)) rfl (by kernel_rfl) (by kernel_rfl) (by kernel_rfl) (fun _ _ _ h => h) (Or.inl ⟨by rfl, (fun W _ => by go_simp)⟩) HS0.out ?_
              simp only [List.getElem_toArray, List.getElem_cons_succ, List.getElem_cons_zero, Act.put, List.setIfInBounds_toArray, List.set_cons_zero, List.set_cons_succ]
              refine wpAnyH_take (i := 3) (v := .pointer (some ⟨b, off + q * 7, none⟩)) rfl (by kernel_rfl) (by kernel_rfl) (by kernel_rfl) (fun _ _ _ h => h) (Or.inl ⟨by rfl, (fun W _ => by go_simp)⟩) HS0.out ?_
              simp only [List.getElem_toArray, List.getElem_cons_succ, List.getElem_cons_zero, Act.put, List.setIfInBounds_toArray, List.set_cons_zero, List.set_cons_succ]
              refine wpAnyH_take (i := 4) (v := .pointer (some ⟨b, off + q * 7 + 5, none⟩)) rfl (by kernel_rfl) (by kernel_rfl) (by kernel_rfl) (fun _ _ _ h => h) (Or.inl ⟨by rfl, (fun W _ => by go_simp)⟩) HS0.out ?_
              simp only [List.getElem_toArray, List.getElem_cons_succ, List.getElem_cons_zero, Act.put, List.setIfInBounds_toArray, List.set_cons_zero, List.set_cons_succ]
              refine wpAnyH_take (i := 5) (v := .int .i64 c.rights) rfl (by kernel_rfl) (by kernel_rfl) (by kernel_rfl) (fun _ _ _ h => h) (Or.inl ⟨by rfl, (fun W hW => by have q9 := (cfs_see hW HC.out).c5; go_simp)⟩) HS0.out ?_
              simp only [List.getElem_toArray, List.getElem_cons_succ, List.getElem_cons_zero, Act.put, List.setIfInBounds_toArray, List.set_cons_zero, List.set_cons_succ]
              refine wpAnyH_take (i := 6) (v := .int .i64 s) rfl (by kernel_rfl) (by kernel_rfl) (by kernel_rfl) (fun _ _ _ h => h) (Or.inl ⟨by rfl, (fun W _ => by go_simp)⟩) HS0.out ?_
              simp only [List.getElem_toArray, List.getElem_cons_succ, List.getElem_cons_zero, Act.put, List.setIfInBounds_toArray, List.set_cons_zero, List.set_cons_succ]
              refine wpAnyH_take (i := 7) (v := .slice (some ⟨b, off, none⟩) k cap) rfl (by kernel_rfl) (by kernel_rfl) (by kernel_rfl) (fun _ _ _ h => h) (Or.inl ⟨by rfl, (fun W _ => by go_simp)⟩) HS0.out ?_
              simp only [List.getElem_toArray, List.getElem_cons_succ, List.getElem_cons_zero, Act.put, List.setIfInBounds_toArray, List.set_cons_zero, List.set_cons_succ]
              refine wpAnyH_take (i := 8) (v := .int .i64 (q : Int)) rfl (by kernel_rfl) (by kernel_rfl) (by kernel_rfl) (fun _ _ _ h => h) (Or.inl ⟨by rfl, (fun W _ => by go_simp)⟩) HS0.out ?_
              simp only [List.getElem_toArray, List.getElem_cons_succ, List.getElem_cons_zero, Act.put, List.setIfInBounds_toArray, List.set_cons_zero, List.set_cons_succ]
              refine wpAnyH_take (i := 9) (v := .pointer (some ⟨b, off + q * 7, none⟩)) rfl (by kernel_rfl) (by kernel_rfl) (by kernel_rfl) (fun _ _ _ h => h) (Or.inl ⟨by rfl, (fun W _ => by go_simp)⟩) HS0.out ?_
              simp only [List.getElem_toArray, List.getElem_cons_succ, List.getElem_cons_zero, Act.put, List.setIfInBounds_toArray, List.set_cons_zero, List.set_cons_succ]
              refine wpAnyH_take (i := 10) (v := .agg c.cells) rfl (by kernel_rfl) (by kernel_rfl) (by kernel_rfl) (fun _ _ _ h => h) (yields_ld (by rfl) 38 (.tmp 60) rfl _ _ (fun W hW => (cfs_see hW HC.out).ld) rfl) HS0.out ?_
              simp only [List.getElem_toArray, List.getElem_cons_succ, List.getElem_cons_zero, Act.put, List.setIfInBounds_toArray, List.set_cons_zero, List.set_cons_succ]
              refine wpAnyH_ready (rs := [11]) (by kernel_rfl) (by simp) ?_
              refine AllReadyH.cons rfl (fun K hK => ?_) AllReadyH.nil
              go_simp
              refine (HNE.out _).mono ?_
              rintro e w5 ⟨rfl, b5⟩
              have T5 := Lib.hid (((Below.refl wr.heap.size wr).drew).trans b5)
              have R5 := Lib.hid (run_below HR1.out T5.out HBR.out)
              clear b5
              refine hK.out _ _ R5.out (fun _ => ?_)
              clear hK K
              refine wpAnyH_take (i := 12) (v := .agg (Cp.cells ⟨c.rights, s, d⟩)) rfl (by kernel_rfl) (by kernel_rfl) (by kernel_rfl) (fun _ _ _ h => h) (Or.inl ⟨by rfl, (fun W _ => by go_simp; rfl)⟩) R5.out ?_
              simp only [List.getElem_toArray, List.getElem_cons_succ, List.getElem_cons_zero, Act.put, List.setIfInBounds_toArray, List.set_cons_zero, List.set_cons_succ]
              refine wpAnyH_ready (rs := [13]) (by kernel_rfl) (by simp) ?_
              refine AllReadyH.cons rfl (fun K hK => ?_) AllReadyH.nil
              go_simp
              have T7 := Lib.hid (T5.out.alloc T5.out.size (.cells (Cp.cells ⟨c.rights, s, d⟩) 24))
              have R7 := Lib.hid (run_below HR1.out T7.out HBR.out)
              refine hK.out _ _ R7.out (fun _ => ?_)
              clear hK K
              refine wpAnyH_ready (rs := [14]) (by kernel_rfl) (by simp) ?_
              refine AllReadyH.cons rfl (fun K hK => ?_) AllReadyH.nil
              have O7 := own_kept O1.out T7.out
              obtain ⟨v8, w8, hrun, o8, g8⟩ := runs_appP _ w.heap.size 27 u5 q _ O7 w5.heap.size ⟨c.rights, s, d⟩ (has_new w5 24 _) (by omega) (Nat.le_trans B1.out.size T7.out.size)
              have B8 := Lib.hid (own_below (B1.out.trans (T7.out.mono B1.out.size)) O7 g8 (Nat.le_refl _) (Nat.le_trans B1.out.size T7.out.size))
              have O8 := Lib.hid o8
              have R8 := Lib.hid (run_below HR1.out ((own_below (T7.out.mono B1.out.size) O7 g8 (Nat.le_refl _) (Nat.le_trans B1.out.size T7.out.size)).mono hB) HBB.out)
              refine step_run (by rfl) 27 _ _ rfl u5 _ v8 rfl rfl hrun ?_
              refine hK.out _ _ R8.out (fun _ => ?_)
              clear hK K hrun g8 o8 O7
              simp only [List.getElem_toArray, List.getElem_cons_succ, List.getElem_cons_zero, Act.put, List.setIfInBounds_toArray, List.set_cons_zero, List.set_cons_succ]
              refine wpAnyH_take (i := 15) (v := v8) rfl (by kernel_rfl) (by kernel_rfl) (by kernel_rfl) (fun _ _ _ h => h) (Or.inl ⟨by rfl, (fun W _ => by go_simp)⟩) R8.out ?_
              simp only [List.getElem_toArray, List.getElem_cons_succ, List.getElem_cons_zero, Act.put, List.setIfInBounds_toArray, List.set_cons_zero, List.set_cons_succ]
              refine wpAnyH_done (by kernel_rfl) ?_ _
              have l8 := (cfs_see R8.out HC.out).ld
              have sc : List.take (q + 1) cs = List.take q cs ++ [c] := by rw [List.take_add_one, HC.out]; rfl
              have Q8 : Hid (OwnP w8 w.heap.size v8 (q + 1) (layL (cs.take (q + 1)) 0)) := Lib.hid (by rw [sc, layL_snoc, HS.out, HD.out, Int.zero_add]; exact O8.out)
              have ES : Hid (sumN (cs.take (q + 1)) = s + d) := Lib.hid (by rw [sc, sumN_snoc, HS.out, HD.out])
              clear O8 O1 T5 T7 R5 R7 R8 B1 sc HB2 HS0 HR1
              have x2 : (q : Int) < (k : Int) := by omega
              go_wp2_with (first
                | (refine wpList_ld 38 _ rfl _ _ l8 rfl rfl ?_; clear l8)
                | (go_at_call 17; (with_reducible refine (HNE.out _).mono ?_); rintro e w9 ⟨rfl, b9⟩; have R9 := Lib.hid (own_kept Q8.out b9); have B9 := Lib.hid (belowThen B8.out b9 B8.out.size); clear b9))
              go_roundw
              case rel => exact ⟨q + 1, B9.out, by go_num, by omega, by rw [ES.out], R9.out, LN⟩
              case measure => simp [intOf]; omega
        · have e : m = cs.length := by have := HL.out; omega
          rw [List.take_of_length_le (by omega)] at ho ⊢
          have HE := Lib.hid (show OwnP wr w.heap.size u5 k (layL cs 0) from by have := HL.out; rwa [show k = m by omega])
          have EF := Lib.hid (err_none (cs := cs) (by rw [HL.out]; exact E0.out) E1.out (share_no (lone_end (by rw [← e]; exact HA.out))))
          have hs0 : sumN cs ≤ 128 := by have := (sumN_in cs).2; have := HL.out; omega
          obtain ⟨s, hs⟩ : ∃ s, sumN cs = s := ⟨_, rfl⟩
          rw [hs] at hs0 ⊢
          clear ho e HA hs
          go_wp2
          go_ret2
          exact ⟨dealt_yes EF.out HL.out HE.out, hb⟩
end Go.Proofs.Ytljkngalnoepmaa
