/-
  Do two configs share a name? The program's own call; conditions: the row lies in old memory.
-/
import Derived.Test.YtljkngalnoepmaaFe
namespace Go.Proofs.Ytljkngalnoepmaa
open Go.RowKit
set_option linter.unusedVariables false
set_option linter.unusedSimpArgs false

theorem name_eq {a b : ByteArray} (h : a = b) : (a.toList == b.toList) = true := by subst h; simp
theorem name_ne {a b : ByteArray} (h : ¬ a = b) : (a.toList == b.toList) = false := by
  rw [ByteArray.toList_eq, ByteArray.toList_eq, beq_eq_false_iff_ne]
  intro e
  exact h (ByteArray.ext (Array.toList_inj.1 e))
/-- None of the first q bears c's name. -/
def Other (cs : List Cf) (c : Cf) (q : Nat) : Prop := ∀ (k : Nat) (d : Cf), k < q → cs[k]? = some d → ¬ c.name = d.name
theorem other_zero (cs : List Cf) (c : Cf) : Other cs c 0 := fun k d hk => by omega
theorem other_step {cs : List Cf} {c d : Cf} {q : Nat} (h : Other cs c q) (hd : cs[q]? = some d) (hn : ¬ c.name = d.name) : Other cs c (q + 1) := by
  intro k d' hk hd'
  by_cases e : k = q
  · subst e
    rw [hd] at hd'
    cases hd'
    exact hn
  · exact h k d' (by omega) hd'
set_option maxRecDepth 100000 in
theorem share_any (a : Option Addr) (n cap : Nat) (cs : List Cf) (B : Nat) (w : World) (hr : Cfs w B a n cs) (hB : B ≤ w.heap.size) (hc : n ≤ cap) (hn : n ≤ 8) :
    Calls Try.prog 20 #[.slice a n cap] w fun e w' => e = .returned (.bool (shareB cs)) ∧ Below w.heap.size w w' := by
  have HR := Lib.hid hr
  have HL := Lib.hid hr.2
  have hz := zero38_run
  clear hr
  go_enter Try.func20, Try.ntmps20
  go_wp2
  go_loopw [9] (fun i wr => ∃ k : Nat, Below w.heap.size w wr ∧ i = .int .i64 (k : Int) ∧ k ≤ n ∧ Hid (Lone cs k)) (fun i _ => n - (intOf i).toNat)
  case atStart => exact ⟨0, Below.refl _ _, rfl, Nat.zero_le _, Lib.hid (lone_zero _)⟩
  case round =>
    obtain ⟨k, hb, rfl, hk, HA⟩ := hrel
    by_cases h : k < n
    · obtain ⟨b, off, rfl, hbB, hrun⟩ := (HR.out.1.kept (hb.mono hB)).open (by omega)
      obtain ⟨c, hc1⟩ : ∃ c, cs[k]? = some c := ⟨_, List.getElem?_eq_getElem (show k < cs.length by have := HL.out; omega)⟩
      have HC := Lib.hid hc1
      have cl := (cfs_see hrun hc1).ld
      have HB := Lib.hid hb
      have HRW := Lib.hid hrun
      have HBB := Lib.hid hbB
      clear hrun hc1 hbB hb
      obtain ⟨wa, rfl⟩ : ∃ x, x = wr := ⟨_, rfl⟩
      have kc : (k : Int) ≤ (cap : Int) := by omega
      go_wp2_with (first
        | (refine wpList_ld 38 _ rfl _ _ cl rfl rfl ?_; clear cl)
        | (refine wpList_row rfl _ _ rfl wa.heap.size c rfl rfl zeroC (has_new wa 38 zeroC) rfl w.heap.size HB.out.size ?_; intro w1 hs1 b1 sz1; have BA := Lib.hid (((Below.refl w.heap.size wa).alloc HB.out.size (.cells zeroC 38)).trans b1); have B1 := Lib.hid (HB.out.trans BA.out); have H1 := Lib.hid hs1; clear hs1 b1 sz1))
      go_loopw [18] (fun i wr => ∃ q : Nat, Below w1.heap.size w1 wr ∧ i = .int .i64 (q : Int) ∧ q ≤ k ∧ Hid (Other cs c q)) (fun i _ => k - (intOf i).toNat)
      case atStart => exact ⟨0, Below.refl _ _, rfl, Nat.zero_le _, Lib.hid (other_zero _ _)⟩
      case round =>
        obtain ⟨q, hb, rfl, hq, HO⟩ := hrel
        have B2 := Lib.hid (belowThen B1.out hb B1.out.size)
        have H2 := Lib.hid (H1.out.kept hb)
        by_cases h' : q < k
        · have hrun := run_below HRW.out ((BA.out.trans (hb.mono B1.out.size)).mono hB) HBB.out
          obtain ⟨d, hd⟩ : ∃ d, cs[q]? = some d := ⟨_, List.getElem?_eq_getElem (show q < cs.length by have := HL.out; omega)⟩
          have HD := Lib.hid hd
          have HQ := Lib.hid hb
          have cl := (cfs_see hrun hd).ld
          clear hrun hd hb
          by_cases e : c.name = d.name
          · have EF := Lib.hid (share_yes ⟨k, q, c, d, h', HC.out, HD.out, e⟩)
            have e1 := name_eq e
            clear e
            go_wp2_with (first
              | (refine wpList_ld 38 _ rfl _ _ cl rfl rfl ?_; clear cl)
              | (refine wpList_row rfl _ _ rfl wr.heap.size d rfl rfl zeroC (has_new wr 38 zeroC) rfl wr.heap.size (Nat.le_refl _) ?_; intro w3 hs3 b3 sz3; have B3 := Lib.hid ((B2.out.alloc B2.out.size (.cells zeroC 38)).trans (b3.mono B2.out.size)); have n3 := (see_b hs3).c0; have n1 := (see_b ((H2.out.more (.cells zeroC 38)).below b3 H2.out.size)).c0; have BI := Lib.hid ((HQ.out.alloc HQ.out.size (.cells zeroC 38)).trans (b3.mono HQ.out.size)); clear hs3 b3 sz3))
            go_ret
            exact ⟨ret_bool EF.out.symm, B3.out⟩
          · have NE := Lib.hid e
            have e1 := name_ne e
            clear e
            go_wp2_with (first
              | (refine wpList_ld 38 _ rfl _ _ cl rfl rfl ?_; clear cl)
              | (refine wpList_row rfl _ _ rfl wr.heap.size d rfl rfl zeroC (has_new wr 38 zeroC) rfl wr.heap.size (Nat.le_refl _) ?_; intro w3 hs3 b3 sz3; have B3 := Lib.hid ((B2.out.alloc B2.out.size (.cells zeroC 38)).trans (b3.mono B2.out.size)); have n3 := (see_b hs3).c0; have n1 := (see_b ((H2.out.more (.cells zeroC 38)).below b3 H2.out.size)).c0; have BI := Lib.hid ((HQ.out.alloc HQ.out.size (.cells zeroC 38)).trans (b3.mono HQ.out.size)); clear hs3 b3 sz3))
            go_roundw
            case rel => exact ⟨q + 1, BI.out, by go_num, by omega, Lib.hid (other_step HO.out HD.out NE.out)⟩
            case measure => simp [intOf]; omega
        · have HN := Lib.hid (lone_step HA.out HC.out (show Other cs c k by have e : q = k := by omega
                                                                            rw [← e]; exact HO.out))
          clear HO hb
          go_wp2
          go_roundw
          case rel => exact ⟨k + 1, B2.out, by go_num, by omega, HN⟩
          case measure => simp [intOf]; omega
    · have HE := Lib.hid (share_no (lone_end (show Lone cs cs.length by have e : k = cs.length := by have := HL.out; omega
                                                                        rw [← e]; exact HA.out)))
      go_wp2
      go_ret
      exact ⟨ret_bool HE.out.symm, hb⟩
end Go.Proofs.Ytljkngalnoepmaa
