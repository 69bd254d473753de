/-
  Are all configs right? The program's own call; conditions: the row lies in old memory, its configs are ones that may come in.
-/
import Derived.Test.YtljkngalnoepmaaFe
import Derived.Test.YtljkngalnoepmaaRi
namespace Go.Proofs.Ytljkngalnoepmaa
open Go.RowKit
set_option linter.unusedVariables false
set_option linter.unusedSimpArgs false

set_option maxRecDepth 100000 in
theorem allRight_any (a : Option Addr) (n cap : Nat) (cs : List Cf) (B : Nat) (w : World) (hr : Cfs w B a n cs) (hB : B ≤ w.heap.size) (hok : ∀ c ∈ cs, c.Ok) (hn : n ≤ maxLen) :
    Calls Try.prog 19 #[.slice a n cap] w fun e w' => e = .returned (.bool (cs.all rightB)) ∧ Below w.heap.size w w' := by
  unfold maxLen at hn
  have HR := Lib.hid hr
  have HL := Lib.hid hr.2
  have HO := Lib.hid hok
  have hz := zero38_run
  clear hr hok
  go_enter Try.func19, Try.ntmps19
  go_wp2
  go_loopw [7] (fun i wr => ∃ k : Nat, Below w.heap.size w wr ∧ i = .int .i64 (k : Int) ∧ k ≤ n ∧ Hid ((cs.take k).all rightB = true)) (fun i _ => n - (intOf i).toNat)
  case atStart => exact ⟨0, Below.refl _ _, rfl, Nat.zero_le _, Lib.hid rfl⟩
  case round =>
    obtain ⟨k, hb, rfl, hk, HA⟩ := hrel
    by_cases h : k < n
    · obtain ⟨b, off, rfl, hbB, hrun⟩ := (HR.out.1.kept (hb.mono hB)).open (by omega)
      obtain ⟨c, hc⟩ : ∃ c, cs[k]? = some c := ⟨_, List.getElem?_eq_getElem (show k < cs.length by have := HL.out; omega)⟩
      have HC := Lib.hid hc
      have cl := (cfs_see hrun hc).ld
      have HB := Lib.hid hb
      have hok := HO.out c (List.mem_of_getElem? hc)
      clear hrun hc hbB
      cases e : rightB c with
      | false =>
        have EF := Lib.hid (all_bad HC.out e)
        go_wp2_with (first
          | (refine wpList_ld 38 _ rfl _ _ cl rfl rfl ?_; clear cl)
          | (refine wpList_row rfl _ _ rfl wr.heap.size c rfl rfl zeroC (has_new wr 38 zeroC) rfl w.heap.size HB.out.size ?_; intro w1 hs1 b1 sz1; have B1 := Lib.hid ((HB.out.alloc HB.out.size (.cells zeroC 38)).trans b1); have l1 := (see_b hs1).ld; have HI := Lib.hid (right_any c w1 hok); rw [e] at HI; clear hs1 b1 sz1)
          | (refine wpList_ld 38 _ rfl _ _ l1 rfl rfl ?_)
          | (go_at_call 14; (with_reducible refine HI.out.mono ?_); rintro e2 w2 ⟨rfl, b2⟩; clear HI; have B2 := Lib.hid (belowThen B1.out b2 B1.out.size); clear b2))
        go_ret
        exact ⟨ret_bool EF.out.symm, B2.out⟩
      | true =>
        have E := Lib.hid e
        go_wp2_with (first
          | (refine wpList_ld 38 _ rfl _ _ cl rfl rfl ?_; clear cl)
          | (refine wpList_row rfl _ _ rfl wr.heap.size c rfl rfl zeroC (has_new wr 38 zeroC) rfl w.heap.size HB.out.size ?_; intro w1 hs1 b1 sz1; have B1 := Lib.hid ((HB.out.alloc HB.out.size (.cells zeroC 38)).trans b1); have l1 := (see_b hs1).ld; have HI := Lib.hid (right_any c w1 hok); rw [e] at HI; clear hs1 b1 sz1)
          | (refine wpList_ld 38 _ rfl _ _ l1 rfl rfl ?_)
          | (go_at_call 14; (with_reducible refine HI.out.mono ?_); rintro e2 w2 ⟨rfl, b2⟩; clear HI; have B2 := Lib.hid (belowThen B1.out b2 B1.out.size); clear b2))
        go_roundw
        case rel => exact ⟨k + 1, B2.out, by go_num, by omega, Lib.hid (all_take HA.out HC.out E.out)⟩
        case measure => simp [intOf]; omega
    · have HE := Lib.hid (all_end HA.out (by have := HL.out; omega))
      go_wp2
      go_ret
      exact ⟨ret_bool HE.out.symm, hb⟩
end Go.Proofs.Ytljkngalnoepmaa
