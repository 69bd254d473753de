/-
  What stands against an image of which a manifest told, as the program tells it; conditions: all is of 64 bits, the digests are of 32 bytes.
-/
import Derived.Test.YtcokpdhhpaahgaaDoorMUp
namespace Go.Proofs.YtcokpdhhpaahgaaDoor
open Go.RowKit
set_option linter.unusedVariables false
set_option linter.unusedSimpArgs false

/-- What lies in memory meanwhile. -/
structure Kq (w0 : World) (m : Mt) (i : Im) (f : Fc) (w : World) : Prop where
  ok : m.Ok
  oki : i.Ok
  okf : f.Ok
  hm : Has w w0.heap.size 27 m.cells
  hi : Has w (w0.heap.size + 1) 24 i.cells
  hf : Has w (w0.heap.size + 1 + 1) 32 f.cells
  hb : Below w0.heap.size w0 w
theorem Kq.kept {w0 w w' : World} {m : Mt} {i : Im} {f : Fc} (h : Kq w0 m i f w) (b : Below w.heap.size w w') : Kq w0 m i f w' := ⟨h.ok, h.oki, h.okf, h.hm.kept b, h.hi.kept b, h.hf.kept b, h.hb.trans (b.mono h.hb.size)⟩
theorem kq_new {m : Mt} {i : Im} {f : Fc} (w : World) (hm : m.Ok) (hi : i.Ok) (hf : f.Ok) : Kq w m i f (((w.alloc (.cells m.cells 27)).alloc (.cells i.cells 24)).alloc (.cells f.cells 32)) :=
  ⟨hm, hi, hf, ((has_new w 27 m.cells).more _).more _, (has_new' _ 24 i.cells _ (by simp)).more _, has_new' _ 32 f.cells _ (by simp), (((Below.refl _ _).alloc (Nat.le_refl _) _).alloc (by simp) _).alloc (by simp; omega) _⟩
theorem may_is {m : Mt} (v : Int) (w : World) (hm : m.Ok) (b : Bool) (h : mayV m v = b) : Calls Tryd.prog 63 #[.agg m.cells, .int .i64 v] w fun e w' => e = .returned (.bool b) ∧ Below w.heap.size w w' := by rw [← h]; exact may_any m v w hm
set_option maxRecDepth 100000 in
set_option maxHeartbeats 4000000 in
theorem mayCome_any (m : Mt) (i : Im) (f : Fc) (quota : Int) (w : World) (hm : m.Ok) (hi : i.Ok) (hf : f.Ok) (hqu : I64 quota) : Calls Tryd.prog 41 #[.agg m.cells, .agg i.cells, .agg f.cells, .int .i64 quota] w fun e w' => e = .returned (.int .i64 (mayE m i f quota)) ∧ Below w.heap.size w w' := by
  have G := Lib.hid (kq_new w hm hi hf)
  have HM0 := fun b h W => may_is (m := m) i.ver W hm b h
  have HC0 := fun W => chunksI_any i.size W hi.2.2.2
  obtain ⟨E, hE⟩ : ∃ E, mayE m i f quota = E := ⟨_, rfl⟩
  rw [hE]
  unfold mayE at hE
  obtain ⟨x, hx⟩ : ∃ x, chunkI i.size = x := ⟨_, rfl⟩
  rw [hx] at hE HC0
  have HC := Lib.hid HC0
  clear hx hm hi hf HC0
  unfold I64 at hqu
  obtain ⟨nm, tg, dg, wn⟩ := f
  simp only at hE
  cases nm with
  | false =>
    rw [if_pos rfl] at hE
    have HE := Lib.hid hE
    clear hE HM0 hqu
    go_enter Tryd.func41, Tryd.ntmps41
    go_wp2_with (first
      | (refine wpList_ld 27 _ rfl _ _ (ld27 G.out.hm G.out.ok) rfl rfl ?_)
      | (refine wpList_ld 3 _ rfl _ _ (ld3 (G.out.hi.at 0)) rfl rfl ?_)
      | (refine wpList_ld 3 _ rfl _ _ (ld3 (G.out.hi.at 1)) rfl rfl ?_)
      | (refine wpList_ld 4 _ rfl _ _ (ld4 (seen_f G.out.hf G.out.okf).name) rfl rfl ?_)
      | (refine wpList_ld 4 _ rfl _ _ (ld4 (seen_f G.out.hf G.out.okf).tag) rfl rfl ?_)
      | (refine wpList_ld 4 _ rfl _ _ (ld4 (seen_f G.out.hf G.out.okf).worn) rfl rfl ?_)
      | (go_at_call 63; (with_reducible refine (HM.out _).mono ?_); rintro e w1 ⟨rfl, b1⟩; replace G := Lib.hid (G.out.kept b1); clear b1)
      | (go_at_call 12; (with_reducible refine (HC.out _).mono ?_); rintro e w1 ⟨rfl, rfl⟩))
    go_ret
    exact ⟨ret_int (by first | exact HE.out | rfl), G.out.hb⟩
  | true =>
  rw [if_neg (show ¬ true = false by decide)] at hE
  cases tg with
  | false =>
    rw [if_pos rfl] at hE
    have HE := Lib.hid hE
    clear hE HM0 hqu
    go_enter Tryd.func41, Tryd.ntmps41
    go_wp2_with (first
      | (refine wpList_ld 27 _ rfl _ _ (ld27 G.out.hm G.out.ok) rfl rfl ?_)
      | (refine wpList_ld 3 _ rfl _ _ (ld3 (G.out.hi.at 0)) rfl rfl ?_)
      | (refine wpList_ld 3 _ rfl _ _ (ld3 (G.out.hi.at 1)) rfl rfl ?_)
      | (refine wpList_ld 4 _ rfl _ _ (ld4 (seen_f G.out.hf G.out.okf).name) rfl rfl ?_)
      | (refine wpList_ld 4 _ rfl _ _ (ld4 (seen_f G.out.hf G.out.okf).tag) rfl rfl ?_)
      | (refine wpList_ld 4 _ rfl _ _ (ld4 (seen_f G.out.hf G.out.okf).worn) rfl rfl ?_)
      | (go_at_call 63; (with_reducible refine (HM.out _).mono ?_); rintro e w1 ⟨rfl, b1⟩; replace G := Lib.hid (G.out.kept b1); clear b1)
      | (go_at_call 12; (with_reducible refine (HC.out _).mono ?_); rintro e w1 ⟨rfl, rfl⟩))
    go_ret
    exact ⟨ret_int (by first | exact HE.out | rfl), G.out.hb⟩
  | true =>
  rw [if_neg (show ¬ true = false by decide)] at hE
  cases hv : mayV m i.ver with
  | false =>
    rw [if_pos hv] at hE
    have HM := Lib.hid (HM0 false hv)
    clear hv
    have HE := Lib.hid hE
    clear hE HM0 hqu
    go_enter Tryd.func41, Tryd.ntmps41
    go_wp2_with (first
      | (refine wpList_ld 27 _ rfl _ _ (ld27 G.out.hm G.out.ok) rfl rfl ?_)
      | (refine wpList_ld 3 _ rfl _ _ (ld3 (G.out.hi.at 0)) rfl rfl ?_)
      | (refine wpList_ld 3 _ rfl _ _ (ld3 (G.out.hi.at 1)) rfl rfl ?_)
      | (refine wpList_ld 4 _ rfl _ _ (ld4 (seen_f G.out.hf G.out.okf).name) rfl rfl ?_)
      | (refine wpList_ld 4 _ rfl _ _ (ld4 (seen_f G.out.hf G.out.okf).tag) rfl rfl ?_)
      | (refine wpList_ld 4 _ rfl _ _ (ld4 (seen_f G.out.hf G.out.okf).worn) rfl rfl ?_)
      | (go_at_call 63; (with_reducible refine (HM.out _).mono ?_); rintro e w1 ⟨rfl, b1⟩; replace G := Lib.hid (G.out.kept b1); clear b1)
      | (go_at_call 12; (with_reducible refine (HC.out _).mono ?_); rintro e w1 ⟨rfl, rfl⟩))
    go_ret
    exact ⟨ret_int (by first | exact HE.out | rfl), G.out.hb⟩
  | true =>
  rw [if_neg (show ¬ mayV m i.ver = false by rw [hv]; decide)] at hE
  have HM := Lib.hid (HM0 true hv)
  clear hv
  by_cases h6 : 6 < quota
  · by_cases hx : 6 < x
    · rw [if_pos (.inr hx)] at hE
      have dx : decide (6 < x) = true := decide_eq_true hx
      have HE := Lib.hid hE
      clear hE HM0 hqu
      go_enter Tryd.func41, Tryd.ntmps41
      go_wp2_with (first
        | (refine wpList_ld 27 _ rfl _ _ (ld27 G.out.hm G.out.ok) rfl rfl ?_)
        | (refine wpList_ld 3 _ rfl _ _ (ld3 (G.out.hi.at 0)) rfl rfl ?_)
        | (refine wpList_ld 3 _ rfl _ _ (ld3 (G.out.hi.at 1)) rfl rfl ?_)
        | (refine wpList_ld 4 _ rfl _ _ (ld4 (seen_f G.out.hf G.out.okf).name) rfl rfl ?_)
        | (refine wpList_ld 4 _ rfl _ _ (ld4 (seen_f G.out.hf G.out.okf).tag) rfl rfl ?_)
        | (refine wpList_ld 4 _ rfl _ _ (ld4 (seen_f G.out.hf G.out.okf).worn) rfl rfl ?_)
        | (go_at_call 63; (with_reducible refine (HM.out _).mono ?_); rintro e w1 ⟨rfl, b1⟩; replace G := Lib.hid (G.out.kept b1); clear b1)
        | (go_at_call 12; (with_reducible refine (HC.out _).mono ?_); rintro e w1 ⟨rfl, rfl⟩))
      go_ret
      exact ⟨ret_int (by first | exact HE.out | rfl), G.out.hb⟩
    · rw [if_neg (fun h => h.elim (fun h => by omega) hx)] at hE
      have dx : decide (6 < x) = false := decide_eq_false hx
      cases wn with
      | true =>
        rw [if_pos rfl] at hE
        have HE := Lib.hid hE
        clear hE HM0 hqu
        go_enter Tryd.func41, Tryd.ntmps41
        go_wp2_with (first
          | (refine wpList_ld 27 _ rfl _ _ (ld27 G.out.hm G.out.ok) rfl rfl ?_)
          | (refine wpList_ld 3 _ rfl _ _ (ld3 (G.out.hi.at 0)) rfl rfl ?_)
          | (refine wpList_ld 3 _ rfl _ _ (ld3 (G.out.hi.at 1)) rfl rfl ?_)
          | (refine wpList_ld 4 _ rfl _ _ (ld4 (seen_f G.out.hf G.out.okf).name) rfl rfl ?_)
          | (refine wpList_ld 4 _ rfl _ _ (ld4 (seen_f G.out.hf G.out.okf).tag) rfl rfl ?_)
          | (refine wpList_ld 4 _ rfl _ _ (ld4 (seen_f G.out.hf G.out.okf).worn) rfl rfl ?_)
          | (go_at_call 63; (with_reducible refine (HM.out _).mono ?_); rintro e w1 ⟨rfl, b1⟩; replace G := Lib.hid (G.out.kept b1); clear b1)
          | (go_at_call 12; (with_reducible refine (HC.out _).mono ?_); rintro e w1 ⟨rfl, rfl⟩))
        go_ret
        exact ⟨ret_int (by first | exact HE.out | rfl), G.out.hb⟩
      | false =>
        rw [if_neg (show ¬ false = true by decide)] at hE
        have HE := Lib.hid hE
        clear hE HM0 hqu
        go_enter Tryd.func41, Tryd.ntmps41
        go_wp2_with (first
          | (refine wpList_ld 27 _ rfl _ _ (ld27 G.out.hm G.out.ok) rfl rfl ?_)
          | (refine wpList_ld 3 _ rfl _ _ (ld3 (G.out.hi.at 0)) rfl rfl ?_)
          | (refine wpList_ld 3 _ rfl _ _ (ld3 (G.out.hi.at 1)) rfl rfl ?_)
          | (refine wpList_ld 4 _ rfl _ _ (ld4 (seen_f G.out.hf G.out.okf).name) rfl rfl ?_)
          | (refine wpList_ld 4 _ rfl _ _ (ld4 (seen_f G.out.hf G.out.okf).tag) rfl rfl ?_)
          | (refine wpList_ld 4 _ rfl _ _ (ld4 (seen_f G.out.hf G.out.okf).worn) rfl rfl ?_)
          | (go_at_call 63; (with_reducible refine (HM.out _).mono ?_); rintro e w1 ⟨rfl, b1⟩; replace G := Lib.hid (G.out.kept b1); clear b1)
          | (go_at_call 12; (with_reducible refine (HC.out _).mono ?_); rintro e w1 ⟨rfl, rfl⟩))
        go_ret
        exact ⟨ret_int (by first | exact HE.out | rfl), G.out.hb⟩
  · by_cases hx : quota < x
    · rw [if_pos (.inl hx)] at hE
      have dx : decide (quota < x) = true := decide_eq_true hx
      have HE := Lib.hid hE
      clear hE HM0 hqu
      go_enter Tryd.func41, Tryd.ntmps41
      go_wp2_with (first
        | (refine wpList_ld 27 _ rfl _ _ (ld27 G.out.hm G.out.ok) rfl rfl ?_)
        | (refine wpList_ld 3 _ rfl _ _ (ld3 (G.out.hi.at 0)) rfl rfl ?_)
        | (refine wpList_ld 3 _ rfl _ _ (ld3 (G.out.hi.at 1)) rfl rfl ?_)
        | (refine wpList_ld 4 _ rfl _ _ (ld4 (seen_f G.out.hf G.out.okf).name) rfl rfl ?_)
        | (refine wpList_ld 4 _ rfl _ _ (ld4 (seen_f G.out.hf G.out.okf).tag) rfl rfl ?_)
        | (refine wpList_ld 4 _ rfl _ _ (ld4 (seen_f G.out.hf G.out.okf).worn) rfl rfl ?_)
        | (go_at_call 63; (with_reducible refine (HM.out _).mono ?_); rintro e w1 ⟨rfl, b1⟩; replace G := Lib.hid (G.out.kept b1); clear b1)
        | (go_at_call 12; (with_reducible refine (HC.out _).mono ?_); rintro e w1 ⟨rfl, rfl⟩))
      go_ret
      exact ⟨ret_int (by first | exact HE.out | rfl), G.out.hb⟩
    · rw [if_neg (fun h => h.elim hx (fun h => by omega))] at hE
      have dx : decide (quota < x) = false := decide_eq_false hx
      cases wn with
      | true =>
        rw [if_pos rfl] at hE
        have HE := Lib.hid hE
        clear hE HM0 hqu
        go_enter Tryd.func41, Tryd.ntmps41
        go_wp2_with (first
          | (refine wpList_ld 27 _ rfl _ _ (ld27 G.out.hm G.out.ok) rfl rfl ?_)
          | (refine wpList_ld 3 _ rfl _ _ (ld3 (G.out.hi.at 0)) rfl rfl ?_)
          | (refine wpList_ld 3 _ rfl _ _ (ld3 (G.out.hi.at 1)) rfl rfl ?_)
          | (refine wpList_ld 4 _ rfl _ _ (ld4 (seen_f G.out.hf G.out.okf).name) rfl rfl ?_)
          | (refine wpList_ld 4 _ rfl _ _ (ld4 (seen_f G.out.hf G.out.okf).tag) rfl rfl ?_)
          | (refine wpList_ld 4 _ rfl _ _ (ld4 (seen_f G.out.hf G.out.okf).worn) rfl rfl ?_)
          | (go_at_call 63; (with_reducible refine (HM.out _).mono ?_); rintro e w1 ⟨rfl, b1⟩; replace G := Lib.hid (G.out.kept b1); clear b1)
          | (go_at_call 12; (with_reducible refine (HC.out _).mono ?_); rintro e w1 ⟨rfl, rfl⟩))
        go_ret
        exact ⟨ret_int (by first | exact HE.out | rfl), G.out.hb⟩
      | false =>
        rw [if_neg (show ¬ false = true by decide)] at hE
        have HE := Lib.hid hE
        clear hE HM0 hqu
        go_enter Tryd.func41, Tryd.ntmps41
        go_wp2_with (first
          | (refine wpList_ld 27 _ rfl _ _ (ld27 G.out.hm G.out.ok) rfl rfl ?_)
          | (refine wpList_ld 3 _ rfl _ _ (ld3 (G.out.hi.at 0)) rfl rfl ?_)
          | (refine wpList_ld 3 _ rfl _ _ (ld3 (G.out.hi.at 1)) rfl rfl ?_)
          | (refine wpList_ld 4 _ rfl _ _ (ld4 (seen_f G.out.hf G.out.okf).name) rfl rfl ?_)
          | (refine wpList_ld 4 _ rfl _ _ (ld4 (seen_f G.out.hf G.out.okf).tag) rfl rfl ?_)
          | (refine wpList_ld 4 _ rfl _ _ (ld4 (seen_f G.out.hf G.out.okf).worn) rfl rfl ?_)
          | (go_at_call 63; (with_reducible refine (HM.out _).mono ?_); rintro e w1 ⟨rfl, b1⟩; replace G := Lib.hid (G.out.kept b1); clear b1)
          | (go_at_call 12; (with_reducible refine (HC.out _).mono ?_); rintro e w1 ⟨rfl, rfl⟩))
        go_ret
        exact ⟨ret_int (by first | exact HE.out | rfl), G.out.hb⟩
end Go.Proofs.YtcokpdhhpaahgaaDoor
