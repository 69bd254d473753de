/-
  Which name is left of a text: the program's call and the document's own answer the same string; conditions: none.
-/
import Derived.Test.YtknmdpdlcmdaeaaCount
import Derived.Laws.Cover4
namespace Go.Proofs.Ytknmdpdlcmdaeaa
open Go.RowKit

theorem Try.info21 : (Try.prog.info? 21).map (fun i => (i.zero, i.size, i.bytes)) = some (some (.int .i32 0), 1, 4) := by kernel_rfl

theorem owns_iterAt {w : World} {base : Nat} {e : TypeId} {size : Nat} {v : Value} {n : Nat} {xs : List Value} (h : w.ownsRow base e size v n xs) {k : Nat} {s : ByteArray} {p : Nat}
    (hk : w.heap[k]? = some (.stringIter s p)) (q : Nat) : (w.iterAt k s q).ownsRow base e size v n xs := by
  obtain ⟨h1, h2⟩ := h
  refine ⟨h1, ?_⟩
  rcases h2 with h2 | ⟨g, cap, cur, a, b, c, d⟩
  · exact .inl h2
  · refine .inr ⟨g, cap, cur, a, b, ?_, d⟩
    rw [Lib.iterAt_other _ _ _ _ _ (by intro e; rw [e, hk] at c; cases c)]
    exact c

/-- What the loop has: the runes that are kept so far, the iterator, nothing old turned. -/
structure CInv (s : ByteArray) (w : World) (B K pos : Nat) (ks : List Int) (ao : Option Addr) (n cap : Nat) (wr : World) : Prop where
  own : wr.ownsRow B 21 1 (.slice ao n cap) n (ks.map (Value.int .i32))
  it : wr.heap[K]? = some (.stringIter s pos)
  bel : Below B w wr
  len : ks.length = n
  bk : B ≤ K
def Split (s : ByteArray) (pos : Nat) (pre : List Int) : Prop := pre ++ rest s pos = all s

section
variable {s : ByteArray} {w wr : World} {B K pos : Nat} {pre ks : List Int} {ao : Option Addr} {n cap : Nat}

theorem CInv.kb (c : CInv s w B K pos ks ao n cap wr) : K < wr.heap.size := (Array.getElem?_eq_some_iff.1 c.it).1

theorem CInv.next (c : CInv s w B K pos ks ao n cap wr) (h : pos < s.size) :
    ∃ w1, (∀ ty, (Instr.next (.pointer (some ⟨K, 0, none⟩)) true ty).run Try.prog wr = .ok (.tuple #[.bool true, .int .i64 pos, .int .i32 (Utf8.decode s pos).1]) w1) ∧
      CInv s w B K (pos + (Utf8.decode s pos).2) ks ao n cap w1 :=
  ⟨wr.iterAt K s (pos + (Utf8.decode s pos).2), fun ty => Lib.run_next_any_at wr K s pos ty c.it h,
    ⟨owns_iterAt c.own c.it _, Lib.iterAt_heap _ _ _ _ _ c.it, Lib.below_iterAt c.bel c.bk _ _, c.len, c.bk⟩⟩

theorem CInv.last (c : CInv s w B K pos ks ao n cap wr) (h : ¬ pos < s.size) :
    ∀ ty, (Instr.next (.pointer (some ⟨K, 0, none⟩)) true ty).run Try.prog wr = .ok (.tuple #[.bool false]) wr :=
  fun ty => Lib.run_next_end_at wr K s pos ty c.it h

theorem Split.step (h : Split s pos pre) (hp : pos < s.size) : Split s (pos + (Utf8.decode s pos).2) (pre ++ [((Utf8.decode s pos).1 : Int)]) := by
  unfold Split at *
  rw [← h, rest_step s pos hp, List.append_assoc]
  rfl

theorem owns_shape {v : Value} {m : Nat} {xs : List Value} {e : TypeId} (h : wr.ownsRow B e 1 v m xs) : ∃ ao cap, v = .slice ao m cap := by
  rcases h.2 with ⟨rfl, rfl⟩ | ⟨g, cap, cur, rfl, _⟩
  · exact ⟨none, 0, rfl⟩
  · exact ⟨_, cap, rfl⟩

theorem CInv.grow (c : CInv s w B K pos ks ao n cap wr) {r : Int} {o : Obj} {ao' : Option Addr} {cap' : Nat} {w2 : World}
    (hown : w2.ownsRow B 21 1 (.slice ao' (n + 1) cap') (n + 1) (ks.map (Value.int .i32) ++ [.int .i32 r]))
    (hgr : (wr.alloc o).grownBy w2 (Value.ownBlock (.slice ao n cap))) : CInv s w B K pos (ks ++ [r]) ao' (n + 1) cap' w2 := by
  have hk := c.kb
  have hrow : ∀ k, Value.ownBlock (.slice ao n cap) = some k → B ≤ k ∧ some K ≠ some k := by
    intro k hk'
    rcases c.own.2 with ⟨h1, _⟩ | ⟨g, cap1, cur, h1, hb, hgg, _⟩
    · cases h1
      simp [Value.ownBlock] at hk'
    · cases h1
      simp [Value.ownBlock] at hk'
      subst hk'
      refine ⟨hb, fun h => ?_⟩
      cases h
      rw [c.it] at hgg
      cases hgg
  refine ⟨by rw [List.map_append]; exact hown, ?_, ?_, by rw [List.length_append, c.len]; rfl, c.bk⟩
  · have hne : some K ≠ Value.ownBlock (.slice ao n cap) := by
      intro h
      exact (hrow K h.symm).2 rfl
    rw [hgr.block K (by simp; omega) hne, Below.heap_alloc _ _ _ hk]
    exact c.it
  · exact (c.bel.alloc (by have := c.bk; omega) o).grown hgr (by have := c.bk; simp; omega) (fun k hk' => (hrow k hk').1)

theorem CInv.conv (c : CInv s w B K pos ks ao n cap wr) : (convert 26 9 (.slice ao n cap)).run Try.prog wr = .ok (.string (runesBytes ks)) wr := by
  rcases c.own.2 with ⟨h1, h2⟩ | ⟨g, cap1, cur, h1, hb, hgg, _⟩
  · cases h1
    have h0 : ks = [] := List.eq_nil_of_length_eq_zero c.len
    rw [h0]
    exact run_convert_runes_nil wr 26 9 21 0 0 Try.underlying26 Try.underlying21 Try.underlying9
  · cases h1
    have hc : ∀ j, j < ks.length → wr.cell? ((⟨g, 0, none⟩ : Addr).add j) = some (.int .i32 (ks.getD j 0)) := by
      intro j hj
      refine c.own.cells rfl j _ ?_
      simp [List.getElem?_eq_getElem hj, List.getD]
    have := run_convert_runes wr 26 9 21 ⟨g, 0, none⟩ n cap ks (Nat.le_of_eq c.len.symm) Try.underlying26 Try.underlying21 Try.underlying9 hc
    rw [List.take_of_length_le (Nat.le_of_eq c.len)] at this
    exact this
theorem CInv.cell1 (x : Value) (t : TypeId) (W : World) : ∀ j u, [x][j]? = some u → (W.alloc (.cells #[x] t)).cell? ((⟨W.heap.size, 0, none⟩ : Addr).add j) = some u := by
  intro j u hj
  match j, hj with
  | 0, hj => simp at hj; subst hj; simp [Addr.add]
theorem end_all (h : Split s pos pre) (hp : ¬ pos < s.size) : cleanS s = runesBytes (cleanL pre) := by
  unfold Split at h
  rw [rest_end s pos hp, List.append_nil] at h
  unfold cleanS
  rw [← h]
theorem cleanL_len (l : List Int) : (cleanL l).length ≤ 8 := by unfold cleanL; rw [List.length_take]; omega
theorem clean_full (l m : List Int) (h8 : (cleanL l).length = 8) : cleanL (l ++ m) = cleanL l := by
  have hk : 8 ≤ (keep l).length := by unfold cleanL at h8; rw [List.length_take] at h8; omega
  rw [cleanL_full l m hk]
  rfl
theorem clean_bad (l : List Int) {r : Int} (hg : goodB (lowI r) = false) : cleanL (l ++ [r]) = cleanL l := by
  unfold cleanL
  rw [keep_snoc, hg]
  simp
theorem clean_more (l : List Int) {r : Int} (hg : goodB (lowI r) = true) (h8 : (cleanL l).length < 8) : cleanL (l ++ [r]) = cleanL l ++ [lowI r] := by
  have hk : (keep l).length < 8 := by unfold cleanL at h8; rw [List.length_take] at h8; omega
  unfold cleanL
  rw [keep_snoc, hg, if_pos rfl, List.take_of_length_le (by simp; omega), List.take_of_length_le (by omega)]
theorem end_full (h : Split s pos pre) (h8 : (cleanL pre).length = 8) : cleanS s = runesBytes (cleanL pre) := by
  unfold Split at h
  unfold cleanS
  rw [← h, clean_full _ _ h8]
theorem CInv.same (c : CInv s w B K pos ks ao n cap wr) {ks' : List Int} (h : ks' = ks) : CInv s w B K pos ks' ao n cap wr := by rw [h]; exact c
end
theorem ret_str {a b : ByteArray} (h : a = b) : Ending.returned (.string a) = .returned (.string b) := by rw [h]

set_option maxHeartbeats 1600000 in
set_option maxRecDepth 100000 in
theorem clean_any (s : ByteArray) (w : World) :
    Calls Try.prog 13 #[.string s] w fun e w' => e = .returned (.string (cleanS s)) ∧ Below w.heap.size w w' := by
  obtain ⟨i0, hi, hz0, hz1, hz2⟩ := info_parts Try.info21
  go_enter Try.func13, Try.ntmps13
  go_wp2_with (at_make; refine wpList_make_own _ rfl _ _ 26 rfl w.heap.size 21 i0 (.int .i32 0) 1 Try.underlying26 hi hz0 hz1 _ _ _ 8 rfl rfl (by omega) ?b2 ?b3 (Nat.le_refl _) ?_)
  case b2 => rw [hz2]; omega
  case b3 => unfold maxLen; omega
  intro w0 hown0 hgrow0
  have hb0 : Below w.heap.size w w0 := (Below.refl _ _).grown hgrow0 (Nat.le_refl _) (fun k h => by cases h)
  have hsz := hb0.size
  clear hgrow0
  go_wp2
  go_loopw [3] (fun v wr => ∃ (pos : Nat) (pre : List Int) (ao : Option Addr) (n cap : Nat), v = .slice ao n cap ∧ CInv s w w.heap.size w0.heap.size pos (cleanL pre) ao n cap wr ∧ Split s pos pre) (fun _ wr => s.size - wr.iterPos w0.heap.size)
  case atStart => exact ⟨0, [], _, 0, 8, rfl, ⟨hown0.alloc _, World.iter_heap _ _ _, hb0.alloc hsz _, rfl, hsz⟩, rest_zero s⟩
  case round =>
    obtain ⟨pos, pre, ao, n, cap, rfl, HC, HS⟩ := hrel
    have hn : n ≤ 8 := by rw [← HC.len]; exact cleanL_len pre
    by_cases h : pos < s.size
    · obtain ⟨w1, hnx, HC1⟩ := HC.next h
      have hm : wr.iterPos w0.heap.size = pos := iterPos_of HC.it
      have hm1 : w1.iterPos w0.heap.size = pos + (Utf8.decode s pos).2 := iterPos_of HC1.it
      have HM := Lib.hid hm
      have HM1 := Lib.hid hm1
      clear hm hm1
      by_cases h8 : n = 8
      · subst h8
        have hcv := HC1.conv
        go_wp2
        go_ret
        exact ⟨ret_str (end_full HS HC1.len).symm, HC1.bel⟩
      · have hlt : n < 8 := by omega
        have hb : ((n : Int) == 8) = false := by simp; omega
        clear h8
        cases hg : goodB (lowI ((Utf8.decode s pos).1 : Int)) with
        | false =>
          go_wp2_with (first | (go_at_call 15; refine (allowed_any _ _).mono ?_; rintro e w' ⟨rfl, rfl⟩) | (go_at_call 17; refine (lower_any _ _).mono ?_; rintro e w' ⟨rfl, rfl⟩))
          have hwd := width_in s pos h
          go_roundw
          case rel => exact ⟨_, _, ao, n, cap, rfl, HC1.same (clean_bad _ hg), HS.step h⟩
          case measure =>
            rw [HM.out, HM1.out]
            omega
        | true =>
          go_wp2_with (first
            | (go_at_call 15; refine (allowed_any _ _).mono ?_; rintro e w' ⟨rfl, rfl⟩)
            | (go_at_call 17; refine (lower_any _ _).mono ?_; rintro e w' ⟨rfl, rfl⟩)
            | (at_builtin; refine wpList_append_own _ rfl (.tmp 20) (.tmp 22) 26 rfl w.heap.size 21 i0 (.int .i32 0) 1 4 Try.underlying26 hi hz0 hz1 hz2 rfl (by decide) _ n _ rfl (HC1.own.alloc _) ⟨w1.heap.size, 0, none⟩ 1 1 [.int .i32 (lowI ((Utf8.decode s pos).1 : Int))] rfl rfl (CInv.cell1 _ _ _) (by intro u hu; simp at hu; subst hu; rfl) (by unfold maxLen; omega) (by omega) (by have := HC1.bel.size; simp; omega) ?_; intro v' w2 hown2 hgrow2 _; obtain ⟨ao', cap', rfl⟩ := owns_shape hown2))
          have HC2 := HC1.grow hown2 hgrow2
          have hwd := width_in s pos h
          go_roundw
          case rel => exact ⟨_, _, ao', n + 1, cap', rfl, HC2.same (clean_more _ hg (by rw [HC1.len]; exact hlt)), HS.step h⟩
          case measure =>
            rw [HM.out, iterPos_of HC2.it]
            omega
    · have hnx := HC.last h
      have hcv := HC.conv
      go_wp2
      go_ret
      exact ⟨ret_str (end_all HS h).symm, HC.bel⟩
end Go.Proofs.Ytknmdpdlcmdaeaa
