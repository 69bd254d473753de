/-
  The program's Cut; conditions: the flash is there, the mask is short.
-/
import Derived.Test.YtklhmneapegfpaaGreatDoorOps
namespace Go.Proofs.YtklhmneapegfpaaGreatDoor
open Go.RowKit
set_option linter.unusedVariables false
set_option linter.unusedSimpArgs false

theorem only_grown {w w' : World} {v : Value} {p : Nat → Prop} (hg : w.grownBy w' v.ownBlock) (hv : v = .slice none 0 0) : Below w.heap.size w w' := by
  subst hv
  exact (Below.refl _ w).grown hg (Nat.le_refl _) (fun k hk => by cases hk)
theorem built51m (h : Int) (A : Option Addr) (n z : Nat) : Tryz.prog.built 55 [(0, .bool true), (1, .int .i64 h), (2, .slice A n z)] = some (cutCells true h (.slice A n z)) := by kernel_rfl
set_option maxRecDepth 100000 in
set_option maxHeartbeats 1000000 in
theorem cut_any {T g m k : Nat} {S : Fs} (q : Int) (A : Option Addr) (n z : Nat) (zs : List Int) (w : World) (hq : I64 q) (hf : Fl w T g m k S) (hr : Row w A n zs) (hz : n ≤ z) (hn : n ≤ 100000) (hT : T ≤ w.heap.size) :
    Calls Tryz.prog 9 #[.pointer (some ⟨g, 0, none⟩), .int .i64 q, .slice A n z] w fun e w' => e = .returned (.tuple #[]) ∧ FlTo T g m k (cutAt S (max q 0).toNat (zs.take S.mem.length)) w w' := by
  obtain ⟨c0, _⟩ := hf.cells
  have hN := hf.small
  have hl := hr.1
  obtain ⟨d, hd⟩ : ∃ d, min n S.mem.length = d := ⟨_, rfl⟩
  have hr1 : Row w A d (zs.take S.mem.length) := by
    have := row_upto hr d (by omega)
    have e : zs.take d = zs.take S.mem.length := by
      rw [← hd]
      by_cases h : n ≤ S.mem.length
      · rw [Nat.min_eq_left h, List.take_of_length_le (by omega), List.take_of_length_le (by omega)]
      · rw [Nat.min_eq_right (by omega)]
    rw [e] at this
    exact this
  have own0 := own_nil w w.heap.size
  have hmax : (if q < 0 then (0 : Int) else q) = (((max q 0).toNat : Nat) : Int) := by split <;> omega
  have hmin : (if S.mem.length < n then (S.mem.length : Int) else (n : Int)) = (d : Int) := by split <;> omega
  have h63 : Fits63 (max q 0).toNat := by unfold Fits63; have := hq.2; omega
  generalize hQ : (max q 0).toNat = Q at *
  have d1 : d ≤ n := by omega
  have d2 : (d : Int) ≤ (z : Int) := by omega
  have d0 : (0 : Int) ≤ (d : Int) := by omega
  have HF := Lib.hid hf
  have H63 := Lib.hid h63
  clear hd hQ h63 hf hr
  generalize zs.take S.mem.length = ms at *
  go_enter Tryz.func9, Tryz.ntmps9
  go_wp2_with (first
    | (go_at_call 30; refine (there_any g _).mono ?_; rintro e w1 ⟨rfl, rfl⟩)
    | (at_builtin; (with_reducible refine wpList_app rfl _ _ rfl w.heap.size (.slice none 0 0) 0 [] rfl own0 A d z ms rfl hr1 (row_none hr1) (by omega) (Nat.le_refl _) ?_); intro v2 w2 o2 g2; have b2 := below_own (Below.refl _ w) own0 g2 (Nat.le_refl _) (Nat.le_refl _); rw [Nat.zero_add, List.nil_append] at o2; obtain ⟨A2, z2, rfl, hz2, hr2, hb2⟩ := o2.form; have f2 := HF.out.kept b2; have b51 := built51m (Q : Int) A2 d z2; have F2 := fl_store f2 true Q A2 d z2 (some (Q, ms)) (cutAt_ok f2.ok Q hr2.2.1 (by rw [hr2.1]; omega)) (fun w' o => ⟨rfl, rfl, H63.out, row_keep hr2 o (fun x hx e => by have := (hb2 x hx).1; have := HF.out.in g (.inl rfl); omega), hz2, fun x hx => Nat.le_trans hT (hb2 x hx).1⟩); obtain ⟨c9, h9, A9, n9, z9, ha9, _⟩ := f2; have hs1 := ha9.str)
    | (refine wpList_build_to rfl 55 _ rfl _ b51 ?_)
    | ((with_reducible refine wpList_store_cut rfl _ _ rfl g true Q A2 d z2 rfl rfl m k _ _ _ _ _ _ _ hs1 ?_); rintro w3 rfl))
  go_end0
  exact ⟨rfl, F2.1, (Only.of_below b2).trans F2.2⟩
end Go.Proofs.YtklhmneapegfpaaGreatDoor
