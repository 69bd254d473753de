/-
  The readers: the program's and the document's own; conditions: the reader is there.
-/
import Derived.Test.YtjfgnoidoeaaeaaOwn
namespace Go.Proofs.Ytjfgnoidoeaaeaa
open Go.RowKit
set_option linter.unusedVariables false
set_option linter.unusedSimpArgs false

theorem cut_any (s : Int) (m : Nat) (w : World) : Calls Try.prog 31 #[.int .i64 s, .int .i64 (m : Int)] w fun e w' => e = .returned (.int .i64 (cutN s m : Int)) ∧ w = w' := by
  by_cases h0 : s < 0
  · rw [cut_low h0]
    have e1 : max s 0 = 0 := by omega
    have e2 : min (0 : Int) (m : Int) = 0 := by omega
    go_enter Try.func31, Try.ntmps31
    go_wp2
    go_ret
    exact ⟨rfl, rfl⟩
  · by_cases h1 : (m : Int) < s
    · rw [cut_high h1]
      go_enter Try.func31, Try.ntmps31
      go_wp2
      go_ret
      exact ⟨rfl, rfl⟩
    · rw [cut_mid (by omega) (by omega)]
      go_enter Try.func31, Try.ntmps31
      go_wp2
      go_ret
      exact ⟨rfl, rfl⟩
theorem rcut_any (s : Int) (m : Nat) (w : World) : Calls Try.prog 38 #[.int .i64 s, .int .i64 0, .int .i64 (m : Int)] w fun e w' => e = .returned (.int .i64 (cutN s m : Int)) ∧ w = w' := by
  by_cases h0 : s < 0
  · rw [cut_low h0]
    go_enter Try.func38, Try.ntmps38
    go_wp2
    go_ret
    exact ⟨rfl, rfl⟩
  · by_cases h1 : (m : Int) < s
    · rw [cut_high h1]
      go_enter Try.func38, Try.ntmps38
      go_wp2
      go_ret
      exact ⟨rfl, rfl⟩
    · rw [cut_mid (by omega) (by omega)]
      go_enter Try.func38, Try.ntmps38
      go_wp2
      go_ret
      exact ⟨rfl, rfl⟩
theorem cut1000 (s : Int) (w : World) : Calls Try.prog 31 #[.int .i64 s, .int .i64 1000] w fun e w' => e = .returned (.int .i64 (cutN s 1000 : Int)) ∧ w = w' := cut_any s 1000 w
theorem cut8 (s : Int) (w : World) : Calls Try.prog 31 #[.int .i64 s, .int .i64 8] w fun e w' => e = .returned (.int .i64 (cutN s 8 : Int)) ∧ w = w' := cut_any s 8 w
theorem rcut1000 (s : Int) (w : World) : Calls Try.prog 38 #[.int .i64 s, .int .i64 0, .int .i64 1000] w fun e w' => e = .returned (.int .i64 (cutN s 1000 : Int)) ∧ w = w' := rcut_any s 1000 w
theorem rcut8 (s : Int) (w : World) : Calls Try.prog 38 #[.int .i64 s, .int .i64 0, .int .i64 8] w fun e w' => e = .returned (.int .i64 (cutN s 8 : Int)) ∧ w = w' := rcut_any s 8 w
theorem clone_any (A : Option Addr) (n c : Nat) (zs : List Int) (w : World) (hr : Row w A n zs) (hn : n ≤ 1000000) : Calls Try.prog 39 #[.slice A n c] w (Gives n zs w) := by
  cases A with
  | none =>
    obtain rfl := row_none hr rfl
    obtain rfl : zs = [] := List.eq_nil_of_length_eq_zero hr.1
    have he : ∀ w : World, (binOp .eql 22 (.slice none 0 c) (.slice none 0 0)).run Try.prog w = .ok (.bool true) w := fun _ => rfl
    go_enter Try.func39, Try.ntmps39
    go_wp2
    go_ret
    exact ⟨_, rfl, own_nil _ _, Below.refl _ _⟩
  | some x =>
    have hb0 : Below w.heap.size w (w.alloc (.cells #[] 5)) := (Below.refl _ w).alloc (Nat.le_refl _) _
    have ho : Own (w.alloc (.cells #[] 5)) w.heap.size (.slice (some ⟨w.heap.size, 0, none⟩) 0 0) 0 [] := own_lit w w.heap.size [] byt_nil 0 rfl (Nat.zero_le _) (Nat.le_refl _)
    have hr1 := row_below hb0 hr
    have hsz := hb0.size
    have he : ∀ w : World, (binOp .eql 22 (.slice (some x) n c) (.slice none 0 0)).run Try.prog w = .ok (.bool false) w := fun _ => rfl
    go_enter Try.func39, Try.ntmps39
    go_wp2_with (at_builtin; (with_reducible refine wpList_app rfl _ _ rfl w.heap.size (.slice (some ⟨w.heap.size, 0, none⟩) 0 0) 0 [] rfl ho _ _ _ zs rfl hr1 (row_none hr1) (by omega) hsz ?_); intro v' w' h3 h4)
    rw [Nat.zero_add] at h3
    go_ret
    exact ⟨_, rfl, h3, below_own hb0 ho h4 (Nat.le_refl _) hsz⟩

theorem add_block (a : Addr) (k : Nat) : (a.add k).block = a.block := by unfold Addr.add; split <;> rfl
theorem addr_add (b off k : Nat) : (⟨b, off, none⟩ : Addr).add k = ⟨b, off + k, none⟩ := by unfold Addr.add; split <;> simp_all
theorem size5 : (Try.prog.info? 5).map (·.size) = some 1 := by kernel_rfl
theorem elem29 : Try.prog.elem 22 = 5 := by kernel_rfl
theorem run_from (w : World) (A : Option Addr) (n c : Nat) (k : IntKind) (K : Nat) (hK : K ≤ n) (hnc : n ≤ c) : (Instr.sliceAt 22 (.slice A n c) (some (.int k (K : Int))) none none).run Try.prog w = .ok (sliced A K n c 1) w := by
  obtain ⟨i, hi, hsz⟩ := Option.map_eq_some_iff.1 size5
  have hu : Try.prog.underlying 22 = some (.slice (Try.prog.elem 22)) := by rw [elem29]; exact Try.underlying22
  rw [run_sliceAt_slice w 22 _ _ _ _ hu, run_slice_l w 22 A n c hu k K (by omega) (by omega), elem29]
  simp [sizeOf, typeInfo, hi, hsz]
theorem run_upto (w : World) (A : Option Addr) (n c : Nat) (k : IntKind) (K : Nat) (hK : K ≤ c) : (Instr.sliceAt 22 (.slice A n c) none (some (.int k (K : Int))) none).run Try.prog w = .ok (sliced A 0 K c 1) w := by
  obtain ⟨i, hi, hsz⟩ := Option.map_eq_some_iff.1 size5
  have hu : Try.prog.underlying 22 = some (.slice (Try.prog.elem 22)) := by rw [elem29]; exact Try.underlying22
  rw [run_sliceAt_slice w 22 _ _ _ _ hu, run_slice_h w 22 A n c hu k K (by omega) (by omega), elem29]
  simp [sizeOf, typeInfo, hi, hsz]
/-- An address whose block lies below T, if there is one with cells. -/
def Lies (A : Option Addr) (n T : Nat) : Prop := 0 < n → ∀ x, A = some x → x.block < T
theorem lies_none (n T : Nat) : Lies none n T := fun _ x hx => by cases hx
theorem row_lies {w : World} {A : Option Addr} {n : Nat} {zs : List Int} (h : Row w A n zs) : Lies A n w.heap.size := by
  intro h0 x hx
  obtain ⟨b, off, e, hb, _⟩ := row_open h h0
  rw [e] at hx
  cases hx
  exact hb
/-- A row stays where nothing of its own block has turned. -/
theorem row_stays {w w' : World} {P : Nat → Prop} {a : Option Addr} {n : Nat} {zs : List Int} (h : Row w a n zs) (o : Only P w w') (hp : 0 < n → ∀ x, a = some x → ¬ P x.block) : Row w' a n zs := by
  by_cases h0 : 0 < n
  · exact row_keep h o (hp h0)
  · exact ⟨h.1, h.2.1, .inl (by omega)⟩
theorem row_under {w w' : World} {P : Nat → Prop} {a : Option Addr} {n T : Nat} {zs : List Int} (h : Row w a n zs) (hl : Lies a n T) (o : Only P w w') (hp : ∀ b, P b → T ≤ b) : Row w' a n zs :=
  row_stays h o fun h0 x hx hP => by have := hl h0 x hx; have := hp _ hP; omega
theorem row_cut {w : World} {A : Option Addr} {n c : Nat} {zs : List Int} {T : Nat} (hr : Row w A n zs) (hA : Lies A n T) (K : Nat) (hK : K ≤ n) (hnc : n ≤ c) :
    ∃ A', sliced A K n c 1 = .slice A' (n - K) (c - K) ∧ Row w A' (n - K) (zs.drop K) ∧ Lies A' (n - K) T := by
  refine ⟨_, rfl, ?_, ?_⟩
  · by_cases h0 : n = K
    · exact ⟨by rw [List.length_drop, hr.1], byt_drop hr.2.1 _, .inl (by omega)⟩
    · rw [if_neg (by omega)]
      obtain ⟨b, off, rfl, hw, hc⟩ := row_open hr (by omega)
      have e : (some (⟨b, off, none⟩ : Addr)).map (·.add (K * 1)) = some ⟨b, off + K, none⟩ := by rw [Option.map_some, addr_add, Nat.mul_one]
      rw [e]
      exact row_from hr K (by omega)
  · intro h0 x hx
    split at hx
    · exact hA (by omega) x hx
    · obtain ⟨y, hy, rfl⟩ := Option.map_eq_some_iff.1 hx
      rw [add_block]
      exact hA (by omega) y hy
theorem row_head {w : World} {A : Option Addr} {n c : Nat} {zs : List Int} {T : Nat} (hr : Row w A n zs) (hA : Lies A n T) (K : Nat) (hK : K ≤ n) (hnc : n ≤ c) :
    ∃ A', sliced A 0 K c 1 = .slice A' K c ∧ Row w A' K (zs.take K) ∧ Lies A' K T := by
  refine ⟨_, rfl, ?_, ?_⟩
  · have h := row_upto hr K hK
    by_cases h0 : K = 0
    · exact ⟨h.1, h.2.1, .inl h0⟩
    · rw [if_neg (by omega)]
      obtain ⟨b, off, rfl, hw, hc⟩ := row_open hr (by omega)
      have e : (some (⟨b, off, none⟩ : Addr)).map (·.add (0 * 1)) = some ⟨b, off, none⟩ := by rw [Option.map_some, addr_add]; simp
      rw [e]
      exact h
  · intro h0 x hx
    split at hx
    · exact hA (by omega) x hx
    · obtain ⟨y, hy, rfl⟩ := Option.map_eq_some_iff.1 hx
      rw [add_block]
      exact hA (by omega) y hy

/-- The program's reader at block p, its row below block T. -/
def Rd (w : World) (p T : Nat) (S : Rs) : Prop :=
  S.Ok ∧ T ≤ p ∧ S.rest.length ≤ 1000000 ∧ ∃ A c, Has w p 83 #[.slice A S.rest.length c, .bool S.bad] ∧ Row w A S.rest.length S.rest ∧ S.rest.length ≤ c ∧ Lies A S.rest.length T
/-- The document's reader. -/
def Rr (w : World) (p T : Nat) (S : Rs) : Prop :=
  S.Ok ∧ T ≤ p ∧ S.rest.length ≤ 1000000 ∧ ∃ A n c zs, Has w p 78 #[.slice A n c, .bool S.bad] ∧ Row w A n zs ∧ n ≤ c ∧ Lies A n T ∧ (S.bad = false → zs = S.rest)
theorem Rd.only {w w' : World} {p T : Nat} {S : Rs} {P : Nat → Prop} (h : Rd w p T S) (o : Only P w w') (hp : ∀ b, P b → T ≤ b ∧ b ≠ p) : Rd w' p T S := by
  obtain ⟨h1, h2, h3, A, c, h4, h5, h6, h7⟩ := h
  exact ⟨h1, h2, h3, A, c, h4.only o (fun x => (hp _ x).2 rfl), row_under h5 h7 o (fun b hb => (hp b hb).1), h6, h7⟩
theorem Rr.only {w w' : World} {p T : Nat} {S : Rs} {P : Nat → Prop} (h : Rr w p T S) (o : Only P w w') (hp : ∀ b, P b → T ≤ b ∧ b ≠ p) : Rr w' p T S := by
  obtain ⟨h1, h2, h3, A, n, c, zs, h4, h5, h6, h7, h8⟩ := h
  exact ⟨h1, h2, h3, A, n, c, zs, h4.only o (fun x => (hp _ x).2 rfl), row_under h5 h7 o (fun b hb => (hp b hb).1), h6, h7, h8⟩
/-- What a reader's call leaves: only the reader itself may have turned. -/
def RdTo (p T : Nat) (S : Rs) (w w' : World) : Prop := Rd w' p T S ∧ Only (fun b => b = p) w w'
def RrTo (p T : Nat) (S : Rs) (w w' : World) : Prop := Rr w' p T S ∧ Only (fun b => b = p) w w'
/-- What take answers. -/
def Took (S : Rs) (p T k : Nat) (w : World) (e : Ending) (w' : World) : Prop := ∃ A c, e = .returned (.slice A (got S k).length c) ∧ Row w' A (got S k).length (got S k) ∧ RdTo p T (aft S k) w w'
set_option maxRecDepth 100000 in
theorem take_any {p T : Nat} {S : Rs} (k : Nat) (w : World) (hS : Rd w p T S) (hk : k ≤ 1000) : Calls Try.prog 40 #[.pointer (some ⟨p, 0, none⟩), .int .i64 (k : Int)] w (Took S p T k w) := by
  obtain ⟨hok, hT, hle, A, c, hh, hr, hc, hA⟩ := hS
  have q0 : w.cell? ⟨p, 0, none⟩ = some (.slice A S.rest.length c) := hh.at 0
  have q1 : w.cell? ⟨p, 1, none⟩ = some (.bool S.bad) := hh.at 1
  have f0 := hh.soft 0
  have f1 := hh.soft 1
  have o1 : Only (fun b => b = p) w (w.setCell ⟨p, 0, none⟩ (.slice none 0 0)) := (Only.refl (fun b => b = p) w).setCell rfl _
  by_cases hlt : S.rest.length < k
  · have HE := Lib.hid (show Took S p T k w (.returned (.slice none 0 0)) ((w.setCell ⟨p, 0, none⟩ (.slice none 0 0)).setCell ⟨p, 1, none⟩ (.bool true)) by
      refine ⟨none, 0, by rw [got_short hlt]; rfl, by rw [got_short hlt]; exact row_nil _, ?_, o1.setCell rfl _⟩
      rw [aft_short hlt]
      exact ⟨⟨byt_nil, fun _ => rfl⟩, hT, by simp, none, 0, (hh.put 0 _).put 1 _, row_nil _, Nat.le_refl _, lies_none _ _⟩)
    go_enter Try.func40, Try.ntmps40
    go_wp2
    go_ret
    exact HE.out
  · have hkn : k ≤ S.rest.length := by omega
    obtain ⟨A1, e1, r1, l1⟩ := row_head hr hA k hkn hc
    obtain ⟨A2, e2, r2, l2⟩ := row_cut hr hA k hkn hc
    have R1 := run_upto w A S.rest.length c .i64 k (by omega)
    have R2 := run_from w A S.rest.length c .i64 k hkn hc
    rw [e1] at R1
    rw [e2] at R2
    have o2 : Only (fun b => b = p) w (w.setCell ⟨p, 0, none⟩ (.slice A2 (S.rest.length - k) (c - k))) := (Only.refl (fun b => b = p) w).setCell rfl _
    have HE := Lib.hid (show Took S p T k w (.returned (.slice A1 k c)) (w.setCell ⟨p, 0, none⟩ (.slice A2 (S.rest.length - k) (c - k))) by
      have hr1 := row_under r1 l1 o2 (fun b e => by omega)
      have hr2 := row_under r2 l2 o2 (fun b e => by omega)
      have hput := hh.put 0 (.slice A2 (S.rest.length - k) (c - k))
      cases hb : S.bad with
      | false =>
        have hg := got_yes hb hkn
        have ha := aft_yes hb hkn
        have hl1 : (S.rest.take k).length = k := by rw [List.length_take]; omega
        have hl2 : (S.rest.drop k).length = S.rest.length - k := List.length_drop ..
        refine ⟨A1, c, by rw [hg, hl1], by rw [hg, hl1]; exact hr1, ?_, o2⟩
        rw [ha]
        refine ⟨⟨byt_drop hok.1 _, fun h => by cases h⟩, hT, by simp only []; omega, A2, c - k, ?_, by simp only []; rw [hl2]; exact hr2, by simp only []; omega, by simp only [hl2]; exact l2⟩
        simp only [hl2]
        rw [hb] at hput
        exact hput
      | true =>
        have h0 := hok.2 hb
        obtain rfl : k = 0 := by rw [h0] at hkn; simpa using hkn
        have hl0 : S.rest.length - 0 = 0 := by rw [h0]; rfl
        generalize w.setCell ⟨p, 0, none⟩ (.slice A2 (S.rest.length - 0) (c - 0)) = W at *
        rw [hb, hl0] at hput
        refine ⟨A1, c, by rw [got_bad hb]; rfl, by rw [got_bad hb]; exact ⟨rfl, byt_nil, .inl rfl⟩, ?_, o2⟩
        rw [aft_bad hb]
        exact ⟨⟨byt_nil, fun _ => rfl⟩, hT, by simp, A2, c - 0, hput, ⟨rfl, byt_nil, .inl rfl⟩, Nat.zero_le _, fun h => absurd h (by simp)⟩)
    clear hr hA hc hok hT r1 r2 l1 l2 o1 o2 e1 e2 hh
    go_enter Try.func40, Try.ntmps40
    go_wp2
    go_ret
    exact HE.out
theorem newReader_any (A : Option Addr) (n c : Nat) (zs : List Int) (w : World) (hr : Row w A n zs) (hn : n ≤ 1000000) :
    Calls Try.prog 33 #[.slice A n c] w fun e w' => ∃ p, e = .returned (.pointer (some ⟨p, 0, none⟩)) ∧ w.heap.size ≤ p ∧ Rd w' p p ⟨zs, false⟩ ∧ Below w.heap.size w w' := by
  have HC := Lib.hid (clone_any A n c zs w hr hn)
  have HZ := Lib.hid hr.2.1
  have HL := Lib.hid hr.1
  clear hr
  go_enter Try.func33, Try.ntmps33
  go_wp2_with (go_at_call 39; (with_reducible refine HC.out.mono ?_); rintro e w1 ⟨v, rfl, ho, hb⟩; obtain ⟨A1, c1, rfl, hc1, hr1, hk1⟩ := ho.form)
  have hb2 : Below w.heap.size w (w1.alloc (.cells #[.slice A1 n c1, .bool false] 83)) := hb.alloc hb.size _
  have hl := HL.out
  go_ret
  exact ⟨w1.heap.size, rfl, hb.size, ⟨⟨HZ.out, fun h => by cases h⟩, Nat.le_refl _, by simp only []; omega, A1, c1, by simp only [hl]; exact has_new _ _ _, by simp only [hl]; exact row_below ((Below.refl _ _).alloc (Nat.le_refl _) _) hr1, by simp only [hl]; exact hc1, fun _ x hx => (hk1 x hx).2⟩, hb2⟩
/-- What Raw answers. -/
def GivesR (zs : List Int) (w : World) (X : World → Prop) (e : Ending) (w' : World) : Prop := ∃ v, e = .returned v ∧ Own w' w.heap.size v zs.length zs ∧ X w'
set_option maxRecDepth 100000 in
theorem raw_any {p T : Nat} {S : Rs} (s : Int) (w : World) (hS : Rd w p T S) : Calls Try.prog 37 #[.pointer (some ⟨p, 0, none⟩), .int .i64 s] w (GivesR (got S (cutN s 1000)) w (RdTo p T (aft S (cutN s 1000)) w)) := by
  have HC := Lib.hid (cut1000 s w)
  have HT := Lib.hid (take_any (cutN s 1000) w hS (cut_le _ _))
  have hgl := got_len S (cutN s 1000)
  have hcl := cut_le s 1000
  have hp : p < w.heap.size := by obtain ⟨_, _, _, _, _, hh, _⟩ := hS; exact hh.size
  have hTp : T ≤ p := hS.2.1
  clear hS
  generalize cutN s 1000 = k at *
  go_enter Try.func37, Try.ntmps37
  go_wp2_with (first
    | (go_at_call 31; (with_reducible refine HC.out.mono ?_); rintro e w1 ⟨rfl, rfl⟩)
    | (go_at_call 40; (with_reducible refine HT.out.mono ?_); rintro e w1 ⟨A1, c1, rfl, hr1, hrd, ho1⟩)
    | (go_at_call 39; (with_reducible refine (clone_any A1 _ c1 _ w1 hr1 (by omega)).mono ?_); rintro e w2 ⟨v, rfl, ho, hb⟩))
  go_ret
  exact ⟨v, rfl, ho.lower ho1.size, hrd.only (P := fun _ => False) (Only.of_below hb) (fun b hb => hb.elim), ho1.below hb⟩
end Go.Proofs.Ytjfgnoidoeaaeaa
