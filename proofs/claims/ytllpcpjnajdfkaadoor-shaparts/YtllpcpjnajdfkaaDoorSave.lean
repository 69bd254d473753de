/-
  What Save writes down, the program's and the document's own; conditions: the stream has begun, the count stays small.
-/
import Derived.Test.YtllpcpjnajdfkaaDoorAlive
namespace Go.Proofs.YtllpcpjnajdfkaaDoor
open Go.RowKit
set_option linter.unusedVariables false
set_option linter.unusedSimpArgs false

theorem rs_word (H : St) (n : Nat) (v : Value) : ∀ j, j < 8 → (rsCells H n v)[j]? = some (.int .u32 (H.get j)) := eight_cases rfl rfl rfl rfl rfl rfl rfl rfl
set_option maxRecDepth 100000 in
set_option maxHeartbeats 1000000 in
theorem save_any (b n : Nat) (H : St) (bf : List Int) (w : World) (hH : H.Ok) (hl : bf.length = 64) (hbb : Byt bf) (hs : Has w b 49 (smCells H n bf)) (hn : n < 1099511627776) :
    Calls Tryd.prog 14 #[.pointer (some ⟨b, 0, none⟩)] w (Gives (40 + n % 64) (saveI H n (bf.take (n % 64))) w) := by
  have hz := zero49_run
  have HL := Lib.hid hl
  clear hl
  go_enter Tryd.func14, Tryd.ntmps14
  go_wp2_with fail
  refine (now_any b n H bf _ HL.out hs).mono ?_
  rintro e w1 ⟨rfl, H1⟩
  have hne := has_new w1 49 zero49
  have hba := H1.alloc H1.size (.cells zero49 49)
  go_wp2_with (first
    | (refine wpList_load_words rfl _ rfl w1.heap.size rfl H n bf hs2 ?_)
    | (refine wpList_row rfl 49 _ _ rfl w1.heap.size (smCells H n bf) rfl rfl 49 _ hne (size49 HL.out) (old49 HL.out) (sm_all _ _ _) ?_; intro w2 hs2 hon2))
  have hb2 := below_only hba hon2 (show w.heap.size ≤ w1.heap.size from H1.size) hba.size
  refine (words_any H _ hH).mono ?_
  rintro e w3 ⟨v3, rfl, ho3, hb3⟩
  have hs3 := hs2.kept hb3
  have hsz := hs2.size
  have hb3' := hb2.trans (hb3.mono hb2.size)
  have c9 : w3.cell? ⟨w1.heap.size, 9, none⟩ = some (.int .u64 (n : Int)) := (hs3.at 9).trans (sm_count H n bf)
  go_wp2_with fail
  refine (count_any (n : Int) _ (by unfold U64; omega)).mono ?_
  rintro e w4 ⟨v4, rfl, ho4, hb4⟩
  obtain ⟨A4, c4, rfl, hc4, hr4, hk4⟩ := ho4.form
  have hs4 := hs3.kept hb4
  have ho3' := (ho3.kept hb4).lower (show w.heap.size ≤ w2.heap.size from hb2.size)
  have hb4' := hb3'.trans (hb4.mono hb3'.size)
  clear c9
  have hfil := fun (W : World) (h : Has W w1.heap.size 49 (smCells H n bf)) => filled_any w1.heap.size n H bf W h
  have hoff3 : ∀ k, v3.ownBlock = some k → w2.heap.size ≤ k := ho3.block
  go_wp2_with (at_builtin; refine wpList_app rfl _ _ rfl w.heap.size _ _ _ rfl ho3' _ _ _ _ rfl hr4 (row_none hr4) (by omega) hb4'.size ?_; intro v5 w5 ho5 hg5)
  have hs5 : Has w5 w1.heap.size 49 (smCells H n bf) := hs4.grown hg5 hoff3 hsz
  have hb5 := below_own hb4' ho3' hg5 (Nat.le_refl _) hb4'.size
  have hfl := hfil w5 hs5
  obtain ⟨f, hf⟩ : ∃ f, n % 64 = f := ⟨_, rfl⟩
  have hf64 : f < 64 := by omega
  rw [hf] at hfl
  have HF := Lib.hid hf
  clear hf hfil
  have hrow : Row w5 (some ⟨w1.heap.size, 10, none⟩) f (bf.take f) := row_upto (row_mk HL.out hbb hs5.size (fun j hj => (hs5.at (10 + j)).trans (sm_rest H _ bf j (by rw [HL.out]; exact hj)))) f (by omega)
  have if64 : (f : Int) ≤ 64 := by omega
  refine hfl.mono ?_
  rintro e w6 ⟨rfl, rfl⟩
  go_wp2_with (at_builtin; refine wpList_app rfl _ _ rfl w.heap.size _ _ _ rfl ho5 _ _ _ _ rfl hrow (fun h => by cases h) (by omega) hb5.size ?_; intro v7 w7 ho7 hg7)
  go_ret
  refine ⟨v7, rfl, ?_, below_own hb5 ho5 hg7 (Nat.le_refl _) hb5.size⟩
  rw [HF.out]
  exact ho7
set_option maxRecDepth 100000 in
set_option maxHeartbeats 2000000 in
theorem rsave_any (b n : Nat) (H : St) (v : Value) (rest : List Int) (w : World) (hH : H.Ok) (hs : Has w b 53 (rsCells H n v)) (ho : Own w 0 v rest.length rest) (hl : rest.length < 64) (hn : n < 1099511627776) :
    Calls Tryd.prog 16 #[.pointer (some ⟨b, 0, none⟩)] w (Gives (40 + rest.length) (saveI H n rest) w) := by
  obtain ⟨A0, c0, rfl, hc0, hr0, hk0⟩ := ho.form
  have hbs : b < w.heap.size := hs.size
  go_enter Tryd.func16, Tryd.ntmps16
  go_wp2_with fail
  go_loopw [3, 4] (fun v i wr => ∃ k : Nat, k ≤ 8 ∧ i = .int .i64 k ∧ Own wr w.heap.size v (4 * k) (wUp H k) ∧ Below w.heap.size w wr) (fun _ i _ => 8 - (intOf i).toNat)
  case atStart => exact ⟨0, by omega, rfl, own_nil _ _, Below.refl _ _⟩
  case round =>
    obtain ⟨k, hk, rfl, hok, hbk⟩ := hrel
    have hsk : Has wr b 53 (rsCells H n (.slice A0 rest.length c0)) := hs.below hbk hbs
    by_cases hlt : k < 8
    · have hw := get_wd hH k hlt
      have qk : wr.cell? ⟨b, k, none⟩ = some (.int .u32 (H.get k)) := (hsk.at k).trans (rs_word H n _ k hlt)
      have hr := row_lit4 wr _ hw
      have ho2 := hok.kept ((Below.refl _ wr).alloc (Nat.le_refl _) (.cells ((bytes4 (H.get k)).map (Value.int .u8)).toArray 5))
      have hb2 := hbk.alloc hbk.size (.cells ((bytes4 (H.get k)).map (Value.int .u8)).toArray 5)
      have hsz := Lib.hid (show w.heap.size ≤ (wr.alloc (.cells ((bytes4 (H.get k)).map (Value.int .u8)).toArray 5)).heap.size from hb2.size)
      have i3 : (k : Int) < 8 := by omega
      go_wp2_with (first
        | (go_at_call 29; (with_reducible refine (rbytes_any _ _ hw).mono ?_); rintro e w' ⟨rfl, rfl⟩)
        | (at_builtin; refine wpList_app rfl _ _ rfl w.heap.size _ _ _ rfl ho2 _ _ _ _ rfl hr (fun h => by cases h) (by omega) hsz.out ?_; intro v' w' h3 h4))
      go_roundw
      case rel => exact ⟨k + 1, by omega, by go_num, by rw [Nat.mul_succ]; exact h3, hb2.grown h4 hsz.out (fun j hj => ho2.block j hj)⟩
      case measure => simp [intOf]; omega
    · have h8 : k = 8 := by omega
      rw [h8, wUp_all] at hok
      clear h8
      have q8 : wr.cell? ⟨b, 8, none⟩ = some (.int .u64 (n : Int)) := hsk.at 8
      have q9 : wr.cell? ⟨b, 9, none⟩ = some (.slice A0 rest.length c0) := hsk.at 9
      have hu : U64 (n : Int) := by unfold U64; omega
      have hrk := row_below hbk hr0
      go_wp2_with fail
      go_region_law (first
        | (refine step_app rfl (.tmp 24) (.tmp 28) rfl w.heap.size _ _ _ (by simp [Act.eval, Act.put]) ho3 A0 rest.length c0 rest (by simp [Act.eval, Act.put]) hr3 (row_none hr3) (by omega) hb3.size ?_; intro v4 w4 ho4 hg4)
        | (refine step_app rfl (.tmp 18) (.tmp 23) rfl w.heap.size _ _ _ (by simp [Act.eval, Act.put]) hok2 A2 8 c2 (bytes8 (n : Int)) (by simp [Act.eval, Act.put]) hr2 (row_none hr2) (by omega) hb2'.size ?_; intro v3 w3 ho3 hg3; have hb3 := below_own hb2' hok2 hg3 (Nat.le_refl _) hb2'.size; have q9b : w3.cell? ⟨b, 9, none⟩ = some (.slice A0 rest.length c0) := (hs.below hb3 hbs).at 9; have hr3 := row_below hb3 hr0)
        | (go_simp; go_at_call 30; (refine (eight_any (n : Int) _ hu).mono ?_); rintro e w2 ⟨v2, rfl, ho2, hb2⟩; obtain ⟨A2, c2, rfl, hc2, hr2, hk2⟩ := ho2.form; have hok2 := (hok.kept ((Below.refl _ wr).drew)).kept hb2; have hb2' := hbk.drew.trans (hb2.mono hbk.size); have q9a : w2.cell? ⟨b, 9, none⟩ = some (.slice A0 rest.length c0) := (hs.below hb2' hbs).at 9))
      all_goals
        go_wp2
        go_ret
        exact ⟨v4, rfl, ho4, below_own hb3 ho3 hg4 (Nat.le_refl _) hb3.size⟩

theorem row_sliced {w : World} {A : Option Addr} {n c : Nat} {zs : List Int} (hr : Row w A n zs) (K : Nat) (hK : K ≤ n) (hnc : n ≤ c) :
    Row w (if c = K then A else A.map (·.add (K * 1))) (n - K) (zs.drop K) ∧ ∀ b, Off A n b → Off (if c = K then A else A.map (·.add (K * 1))) (n - K) b := by
  by_cases h0 : n = K
  · refine ⟨⟨by rw [List.length_drop, hr.1], byt_drop hr.2.1 _, .inl (by omega)⟩, fun b _ h => absurd h (by omega)⟩
  · rw [if_neg (by omega)]
    obtain ⟨b, off, rfl, hw, hc⟩ := row_open hr (by omega)
    have e : (some (⟨b, off, none⟩ : Addr)).map (·.add (K * 1)) = some ⟨b, off + K, none⟩ := by rw [Option.map_some, addr_add, Nat.mul_one]
    rw [e]
    refine ⟨row_from hr K (by omega), fun g hg _ x hx => ?_⟩
    cases hx
    exact hg (by omega) ⟨b, off, none⟩ rfl
/-- x[K:], whatever the capacity. -/
theorem wpList_from {w : World} {ops : Array Oper} {rest : List Oper} {o : Oper} {a : Act} {Q : Exit → Act → World → Prop} (hgd : o.guard = none) (x y : Operand) (ho : o.op = .slice 22 x (some y) none none)
    (A : Option Addr) (n c : Nat) (hx : a.eval x = .slice A n c) (k : IntKind) (K : Nat) (hy : a.eval y = .int k (K : Int)) (zs : List Int) (hr : Row w A n zs) (hK : K ≤ n) (hnc : n ≤ c)
    (h : ∀ A', Row w A' (n - K) (zs.drop K) → (∀ b, Off A n b → Off A' (n - K) b) → wpList Tryd.prog ops Q rest (a.put o.dst (.slice A' (n - K) (c - K))) w) : wpList Tryd.prog ops Q (o :: rest) a w := by
  refine wpList_plain hgd fun K' hK' => ?_
  obtain ⟨i, hi, hsz⟩ := Option.map_eq_some_iff.1 (show (Tryd.prog.info? 5).map (·.size) = some 1 by kernel_rfl)
  have hel : Tryd.prog.elem 22 = 5 := by kernel_rfl
  have hu : Tryd.prog.underlying 22 = some (.slice (Tryd.prog.elem 22)) := by rw [hel]; exact Tryd.underlying22
  have hrun : (Instr.sliceAt 22 (.slice A n c) (some (.int k (K : Int))) none none).run Tryd.prog w = .ok (sliced A K n c 1) w := by
    rw [run_sliceAt_slice w 22 _ _ _ _ hu, run_slice_l w 22 A n c hu k K (by omega) (by omega), hel]
    simp [sizeOf, typeInfo, hi, hsz]
  obtain ⟨r1, r2⟩ := row_sliced hr K hK hnc
  unfold Oper.wp execOp
  simp only [ho, hx, hy, Option.map_some, Option.map_none, Sem.run_bind, Sem.run_pure, Result.andThen_ok, hrun]
  exact hK' _ _ (h _ r1 r2)
end Go.Proofs.YtllpcpjnajdfkaaDoor
