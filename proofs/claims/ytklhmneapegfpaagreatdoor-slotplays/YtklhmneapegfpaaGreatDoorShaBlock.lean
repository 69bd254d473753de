/-
  What the document's own block does: the words of the next state; conditions: the block reads as 64 bytes, the words have 32 bits.
-/
import Derived.Test.YtklhmneapegfpaaGreatDoorShaFold
namespace Go.Proofs.YtklhmneapegfpaaGreatDoor.Sha
open Go.RowKit
set_option linter.unusedVariables false

set_option maxRecDepth 100000 in
theorem consts_any (w : World) : Calls Tryz.prog 87 #[] w fun e w' => e = .returned (.slice (some ⟨w.heap.size, 0, none⟩) 64 64) ∧ w.alloc (.cells (constL.map (Value.int .u32)).toArray 87) = w' := by
  go_enter Tryz.func87, Tryz.ntmps87
  go_wp2
  go_ret
  exact ⟨rfl, rfl⟩

def BW (h : St) (l : List Int) (w wr : World) : Prop :=
  Below w.heap.size w wr ∧ wr.heap.size = w.heap.size + 1 + 1 + 1 + 1 ∧ Has wr w.heap.size 92 (stCells h) ∧ Has wr (w.heap.size + 1) 92 (stCells zeroSt) ∧
  Has wr (w.heap.size + 1 + 1) 87 (constL.map (Value.int .u32)).toArray ∧ Has wr (w.heap.size + 1 + 1 + 1) 113 (wcells l)
theorem BW.drew {h : St} {l : List Int} {w wr : World} (k : BW h l w wr) : BW h l w wr.drew := ⟨k.1.drew, k.2⟩
theorem BW.step {h : St} {l : List Int} {w wr : World} (q : BW h l w wr) (hl : l.length < 64) (x : Int) (k : Nat) (hk : k = l.length) : BW h (l ++ [x]) w (wr.setCell ⟨w.heap.size + 1 + 1 + 1, k, none⟩ (.int .u32 x)) := by
  subst hk
  obtain ⟨h1, h2, h3, h4, h5, h6⟩ := q
  refine ⟨h1.setCell (by show w.heap.size ≤ w.heap.size + 1 + 1 + 1; omega) _, by simpa using h2, h3.by (by show w.heap.size ≠ w.heap.size + 1 + 1 + 1; omega) _, h4.by (by show w.heap.size + 1 ≠ w.heap.size + 1 + 1 + 1; omega) _, h5.by (by simp) _, ?_⟩
  have := h6.put l.length (.int .u32 x)
  rwa [wcells_put hl] at this
theorem BW.cell {h : St} {l : List Int} {w wr : World} (q : BW h l w wr) (hl : l.length ≤ 64) (i : Nat) (hi : i < 64) : wr.cell? ⟨w.heap.size + 1 + 1 + 1, i, none⟩ = some (.int .u32 (l.getD i 0)) := by
  rw [q.2.2.2.2.2.at, wcells_at hl hi]
theorem BW.start (h : St) (w : World) : BW h [] w ((((w.alloc (.cells (stCells h) 92)).alloc (.cells (stCells zeroSt) 92)).alloc (.cells (constL.map (Value.int .u32)).toArray 87)).alloc (.cells (wcells []) 113)) := by
  have n1 := has_new (w.alloc (.cells (stCells h) 92)) 92 (stCells zeroSt)
  have n2 := has_new ((w.alloc (.cells (stCells h) 92)).alloc (.cells (stCells zeroSt) 92)) 87 (constL.map (Value.int .u32)).toArray
  have n3 := has_new (((w.alloc (.cells (stCells h) 92)).alloc (.cells (stCells zeroSt) 92)).alloc (.cells (constL.map (Value.int .u32)).toArray 87)) 113 (wcells [])
  simp only [World.size_alloc] at n1 n2 n3
  exact ⟨((((Below.refl _ _).alloc (Nat.le_refl _) _).alloc (by simp) _).alloc (by simp; omega) _).alloc (by simp; omega) _, by simp, (((has_new w 92 _).more _).more _).more _, (n1.more _).more _, n2.more _, n3⟩

/-- The document's own spelling of a round. -/
def refOne (k w : Int) (t : St) : Int := add32 (add32 (add32 (add32 t.h (mixHigh t.e)) (xor32 (and32 t.e t.f) (and32 (bits .xor .u32 t.e 4294967295) t.g))) k) w
def refRnd (k w : Int) (t : St) : St := ⟨add32 (refOne k w t) (two t), t.a, t.b, t.c, add32 t.d (refOne k w t), t.e, t.f, t.g⟩
theorem refRnd_eq (k w : Int) (t : St) : refRnd k w t = rnd k w t := by simp only [refRnd, refOne, not32_ref]; rfl
theorem one_form (k w : Int) (t : St) : IntKind.u32.wrap (IntKind.u32.wrap (IntKind.u32.wrap (IntKind.u32.wrap (t.h + bits .xor .u32 (bits .xor .u32 (rotI t.e 6) (rotI t.e 11)) (rotI t.e 25)) + bits .xor .u32 (bits .and .u32 t.e t.f) (bits .and .u32 (bits .xor .u32 t.e 4294967295) t.g)) + k) + w) = refOne k w t := by
  simp only [IntKind.wrap_u32']; rfl
theorem two_form (t : St) : IntKind.u32.wrap (bits .xor .u32 (bits .xor .u32 (rotI t.a 2) (rotI t.a 13)) (rotI t.a 22) + bits .xor .u32 (bits .xor .u32 (bits .and .u32 t.a t.b) (bits .and .u32 t.a t.c)) (bits .and .u32 t.b t.c)) = two t := by
  simp only [IntKind.wrap_u32']; rfl
def CW (h t : St) (l : List Int) (M : Nat) (w wq : World) : Prop :=
  Below w.heap.size w wq ∧ Has wq w.heap.size 92 (stCells h) ∧ Has wq (w.heap.size + 1) 92 (stCells zeroSt) ∧
  Has wq (w.heap.size + 1 + 1) 87 (constL.map (Value.int .u32)).toArray ∧ Has wq (w.heap.size + 1 + 1 + 1) 113 (wcells l) ∧ Has wq M 92 (stCells t) ∧ M = w.heap.size + 1 + 1 + 1 + 1
theorem CW.drew {h t : St} {l : List Int} {M : Nat} {w wq : World} (q : CW h t l M w wq) : CW h t l M w wq.drew := ⟨q.1.drew, q.2⟩
theorem CW.start {h : St} {l : List Int} {w wr : World} (q : BW h l w wr) : CW h h l wr.heap.size w (wr.alloc (.cells (stCells h) 92)) := by
  obtain ⟨h1, h2, h3, h4, h5, h6⟩ := q
  exact ⟨h1.alloc h1.size _, h3.more _, h4.more _, h5.more _, h6.more _, has_new wr 92 _, h2⟩
theorem CW.step {h t : St} {l : List Int} {M : Nat} {w wq : World} (q : CW h t l M w wq) (t' : St) : CW h t' l M w (wq.setRow M (stCells t')) := by
  obtain ⟨h1, h2, h3, h4, h5, h6, h7⟩ := q
  have o : ∀ g, g ≠ M → (wq.setRow M (stCells t')).heap[g]? = wq.heap[g]? := fun g hg => setRow_other wq M g _ hg
  exact ⟨below_setRow h1 (by omega) _, (o _ (by omega)).trans h2, (o _ (by omega)).trans h3, (o _ (by omega)).trans h4, (o _ (by omega)).trans h5, setRow_heap _ _ _ _ _ _ h6, h7⟩
def St.get (s : St) (j : Nat) : Int := [s.a, s.b, s.c, s.d, s.e, s.f, s.g, s.h].getD j 0
theorem eight_cases {P : Nat → Prop} (h0 : P 0) (h1 : P 1) (h2 : P 2) (h3 : P 3) (h4 : P 4) (h5 : P 5) (h6 : P 6) (h7 : P 7) : ∀ j, j < 8 → P j := by
  intro j hj
  rcases (by omega : j = 0 ∨ j = 1 ∨ j = 2 ∨ j = 3 ∨ j = 4 ∨ j = 5 ∨ j = 6 ∨ j = 7) with rfl | rfl | rfl | rfl | rfl | rfl | rfl | rfl <;> assumption
theorem st_at (t : St) : ∀ j, j < 8 → (stCells t)[j]? = some (.int .u32 (t.get j)) := eight_cases rfl rfl rfl rfl rfl rfl rfl rfl
def DW (h t : St) (k M : Nat) (w wq : World) : Prop :=
  Below w.heap.size w wq ∧ Has wq (w.heap.size + 1) 92 (stCells zeroSt) ∧ Has wq M 92 (stCells t) ∧ w.heap.size + 1 < M ∧
  ∃ cs : Array Value, Has wq w.heap.size 92 cs ∧ cs.size = 8 ∧ ∀ j, j < 8 → cs[j]? = some (.int .u32 (if j < k then add32 (h.get j) (t.get j) else h.get j))
theorem DW.drew {h t : St} {k M : Nat} {w wq : World} (q : DW h t k M w wq) : DW h t k M w wq.drew := ⟨q.1.drew, q.2⟩
theorem DW.start {h t : St} {l : List Int} {M : Nat} {w wq : World} (q : CW h t l M w wq) : DW h t 0 M w wq := by
  obtain ⟨h1, h2, h3, h4, h5, h6, h7⟩ := q
  exact ⟨h1, h3, h6, by omega, _, h2, rfl, fun j hj => by rw [st_at h j hj]; simp⟩
theorem DW.one {h t : St} {k M : Nat} {w wq : World} (q : DW h t k M w wq) (hk : k < 8) : wq.cell? ⟨w.heap.size, k, none⟩ = some (.int .u32 (h.get k)) ∧ wq.frozen? ⟨w.heap.size, k, none⟩ = false ∧ wq.cell? ⟨M, k, none⟩ = some (.int .u32 (t.get k)) := by
  obtain ⟨h1, h2, h3, h4, cs, h5, h6, h7⟩ := q
  exact ⟨by rw [h5.at, h7 k hk]; simp, h5.soft k, by rw [h3.at, st_at t k hk]⟩
theorem DW.step {h t : St} {k M : Nat} {w wq : World} (q : DW h t k M w wq) (hk : k < 8) : DW h t (k + 1) M w (wq.setCell ⟨w.heap.size, k, none⟩ (.int .u32 (add32 (h.get k) (t.get k)))) := by
  obtain ⟨h1, h2, h3, h4, cs, h5, h6, h7⟩ := q
  refine ⟨h1.setCell (Nat.le_refl _) _, h2.by (by simp) _, h3.by (by show M ≠ w.heap.size; omega) _, h4, _, h5.put k _, by simpa using h6, fun j hj => ?_⟩
  rw [Array.getElem?_setIfInBounds]
  by_cases e : k = j
  · subst e
    simp [h6, hk]
  · rw [if_neg e, h7 j hj]
    by_cases hjk : j < k
    · rw [if_pos hjk, if_pos (by omega)]
    · rw [if_neg hjk, if_neg (by omega)]
theorem DW.end_ {h t : St} {M : Nat} {w wq : World} (q : DW h t 8 M w wq) : Below w.heap.size w wq ∧ Has wq (w.heap.size + 1) 92 (stCells zeroSt) ∧ Has wq w.heap.size 92 (stCells (sumSt h t)) := by
  obtain ⟨h1, h2, h3, h4, cs, h5, h6, h7⟩ := q
  refine ⟨h1, h2, ?_⟩
  have : cs = stCells (sumSt h t) := by
    apply Array.ext_getElem?
    intro j
    by_cases hj : j < 8
    · rw [h7 j hj, if_pos hj, st_at _ j hj]
      exact eight_cases (P := fun j => some (Value.int .u32 (add32 (h.get j) (t.get j))) = some (.int .u32 ((sumSt h t).get j))) rfl rfl rfl rfl rfl rfl rfl rfl j hj
    · rw [Array.getElem?_eq_none (by omega), Array.getElem?_eq_none (by show 8 ≤ j; omega)]
  rw [← this]
  exact h5
theorem const_at (k : Nat) : (constL.map (Value.int .u32)).toArray[k]? = (constL[k]?).map (Value.int .u32) := by simp
theorem const_get (k : Nat) (h : k < 64) : (constL.map (Value.int .u32)).toArray[k]? = some (.int .u32 (kI k)) := by
  rw [const_at, kI, List.getD_eq_getElem?_getD, List.getElem?_eq_getElem (show k < constL.length from h)]; rfl

set_option maxRecDepth 100000 in
set_option maxHeartbeats 2000000 in
theorem block_any (s : St) (b off cap : Nat) (zs : List Int) (w : World) (hs : s.Ok) (hcap : 64 ≤ cap) (hr : Row w (some ⟨b, off, none⟩) 64 zs) :
    Calls Tryz.prog 69 #[.agg (stCells s), .slice (some ⟨b, off, none⟩) 64 cap] w fun e w' => e = .returned (.agg (stCells (foldI s zs))) ∧ Below w.heap.size w w' := by
  unfold stCells
  go_enter Tryz.func69, Tryz.ntmps69
  go_wp2_with (go_at_call 87; refine (consts_any _).mono ?_; rintro e w1 ⟨rfl, rfl⟩)
  go_loopw [7] (fun i wr => ∃ k : Nat, k ≤ 64 ∧ i = .int .i64 k ∧ BW s (sched zs k) w wr) (fun i _ => 64 - (intOf i).toNat)
  case atStart => exact ⟨0, by omega, rfl, BW.start s w⟩
  case round =>
    obtain ⟨k, hk, rfl, hsw⟩ := hrel
    by_cases hlt : k < 64
    · have hl := Lib.hid (sched_len zs k)
      have hc := hsw.cell (by have := hl.out; omega) k (by omega)
      have hf := hsw.2.2.2.2.2.soft k
      have ik : (k : Int) < 64 := by omega
      by_cases hlow : k < 16
      · have hr1 := row_from (row_below hsw.1 hr) (4 * k) (by omega)
        go_wp2_with ((go_at_call 88; (with_reducible refine (rbig_any _ _ _ _ _ hr1).mono ?_); rintro e w1 ⟨rfl, rfl⟩))
        go_roundw
        case rel =>
          refine ⟨k + 1, by omega, by go_num, ?_⟩
          have := hsw.step (by have := hl.out; omega) (bigI (zs.drop (4 * k))) k hl.out.symm
          rw [Nat.mul_comm 4 k, ← sched_low zs k hlow] at this
          rw [Nat.mul_comm 4 k]
          exact this
        case measure => simp [intOf]; omega
      · have hc16 := hsw.cell (by have := hl.out; omega) (k - 16) (by omega)
        have hc15 := hsw.cell (by have := hl.out; omega) (k - 15) (by omega)
        have hc7 := hsw.cell (by have := hl.out; omega) (k - 7) (by omega)
        have hc2 := hsw.cell (by have := hl.out; omega) (k - 2) (by omega)
        have w15 := wds_at (sched_wd hr.2.1 k) (k - 15)
        have w2 := wds_at (sched_wd hr.2.1 k) (k - 2)
        obtain ⟨e16, t16, p16, q16⟩ := minus k 16 16 rfl (by omega) hlt
        obtain ⟨e15, t15, p15, q15⟩ := minus k 15 15 rfl (by omega) hlt
        obtain ⟨e7, t7, p7, q7⟩ := minus k 7 7 rfl (by omega) hlt
        obtain ⟨e2, t2, p2, q2⟩ := minus k 2 2 rfl (by omega) hlt
        have i16 : (16 : Int) ≤ (k : Int) := by omega
        have i15 : (15 : Int) ≤ (k : Int) := by omega
        have i7 : (7 : Int) ≤ (k : Int) := by omega
        have i2 : (2 : Int) ≤ (k : Int) := by omega
        go_wp2_with fail
        refine wp_region_still_tail 29 (by kernel_rfl) (by kernel_rfl) ?_
        simp only [World.drew_eq]
        simp only [List.take_succ_cons, List.take_zero, List.drop_succ_cons, List.drop_zero]
        repeat still_step
        still_call (still_of (rright_any _ _ _ w15))
        repeat still_step
        still_call (still_of (rright_any _ _ _ w15))
        repeat still_step
        still_call (still_of (rright_any _ _ _ w2))
        repeat still_step
        still_call (still_of (rright_any _ _ _ w2))
        repeat still_step
        refine wpStill_nil ?_
        clear e16 t16 p16 q16 e15 t15 p15 q15 e7 t7 p7 q7 e2 t2 p2 q2
        go_wp2
        go_roundw
        case rel =>
          refine ⟨k + 1, by omega, by go_num, ?_⟩
          have := hsw.drew.step (by have := hl.out; omega) (((sched zs k)[k - 16]?.getD 0 + spreadLow ((sched zs k)[k - 15]?.getD 0) + (sched zs k)[k - 7]?.getD 0 + spreadHigh ((sched zs k)[k - 2]?.getD 0)) % 4294967296) k hl.out.symm
          rw [← sched_high zs k (by omega)] at this
          exact this
        case measure => simp [intOf]; omega
    · have h64 : k = 64 := by omega
      have hd : decide ((k : Int) < 64) = false := by simp; omega
      rw [h64] at hsw
      clear h64
      obtain ⟨wa, rfl⟩ : ∃ x, x = wr := ⟨_, rfl⟩
      have c0 : wa.cell? ⟨w.heap.size, 0, none⟩ = some (.int .u32 s.a) := hsw.2.2.1.at 0
      have c1 : wa.cell? ⟨w.heap.size, 1, none⟩ = some (.int .u32 s.b) := hsw.2.2.1.at 1
      have c2 : wa.cell? ⟨w.heap.size, 2, none⟩ = some (.int .u32 s.c) := hsw.2.2.1.at 2
      have c3 : wa.cell? ⟨w.heap.size, 3, none⟩ = some (.int .u32 s.d) := hsw.2.2.1.at 3
      have c4 : wa.cell? ⟨w.heap.size, 4, none⟩ = some (.int .u32 s.e) := hsw.2.2.1.at 4
      have c5 : wa.cell? ⟨w.heap.size, 5, none⟩ = some (.int .u32 s.f) := hsw.2.2.1.at 5
      have c6 : wa.cell? ⟨w.heap.size, 6, none⟩ = some (.int .u32 s.g) := hsw.2.2.1.at 6
      have c7 : wa.cell? ⟨w.heap.size, 7, none⟩ = some (.int .u32 s.h) := hsw.2.2.1.at 7
      have hcw := CW.start hsw
      have hlen := Lib.hid (sched_len zs 64)
      have hwd := sched_wd hr.2.1 64
      have hend := Lib.hid (show foldI s zs = sumSt s (rounds (sched zs 64) s 64) from rfl)
      generalize sched zs 64 = ws at *
      go_wp2_with fail
      clear c0 c1 c2 c3 c4 c5 c6 c7
      go_loopw [11] (fun i wr => ∃ k : Nat, k ≤ 64 ∧ i = .int .i64 k ∧ CW s (rounds ws s k) ws wa.heap.size w wr) (fun i _ => 64 - (intOf i).toNat)
      case atStart => exact ⟨0, by omega, rfl, hcw⟩
      case round =>
        clear hcw hk hlt hsw
        rename_i k0 _ _ _
        obtain ⟨k, hk, rfl, hcw⟩ := hrel
        by_cases hlt : k < 64
        · have tok := rounds_ok hs ws k
          have hnx := Lib.hid (show rounds ws s (k + 1) = rnd (kI k) (ws.getD k 0) (rounds ws s k) from rfl)
          generalize rounds ws s k = t at *
          obtain ⟨oa, ob, oc, od, oe, of, og, oh⟩ := tok
          have d0 : wr.cell? ⟨wa.heap.size, 0, none⟩ = some (.int .u32 t.a) := hcw.2.2.2.2.2.1.at 0
          have d1 : wr.cell? ⟨wa.heap.size, 1, none⟩ = some (.int .u32 t.b) := hcw.2.2.2.2.2.1.at 1
          have d2 : wr.cell? ⟨wa.heap.size, 2, none⟩ = some (.int .u32 t.c) := hcw.2.2.2.2.2.1.at 2
          have d3 : wr.cell? ⟨wa.heap.size, 3, none⟩ = some (.int .u32 t.d) := hcw.2.2.2.2.2.1.at 3
          have d4 : wr.cell? ⟨wa.heap.size, 4, none⟩ = some (.int .u32 t.e) := hcw.2.2.2.2.2.1.at 4
          have d5 : wr.cell? ⟨wa.heap.size, 5, none⟩ = some (.int .u32 t.f) := hcw.2.2.2.2.2.1.at 5
          have d6 : wr.cell? ⟨wa.heap.size, 6, none⟩ = some (.int .u32 t.g) := hcw.2.2.2.2.2.1.at 6
          have d7 : wr.cell? ⟨wa.heap.size, 7, none⟩ = some (.int .u32 t.h) := hcw.2.2.2.2.2.1.at 7
          have dk : wr.cell? ⟨w.heap.size + 1 + 1, k, none⟩ = some (.int .u32 (kI k)) := (hcw.2.2.2.1.at k).trans (const_get k hlt)
          have dw : wr.cell? ⟨w.heap.size + 1 + 1 + 1, k, none⟩ = some (.int .u32 (ws.getD k 0)) := (hcw.2.2.2.2.1.at k).trans (wcells_at (by have := hlen.out; omega) hlt)
          have ik : (k : Int) < 64 := by omega
          have ik0 : (0 : Int) ≤ (k : Int) := by omega
          go_wp2_with fail
          refine wp_region_still_lit (by kernel_rfl) (by kernel_rfl) ?_
          simp only [World.drew_eq]
          repeat still_step
          still_call (still_of (rright_any _ _ _ oe))
          repeat still_step
          still_call (still_of (rright_any _ _ _ oe))
          repeat still_step
          still_call (still_of (rright_any _ _ _ oe))
          repeat still_step
          refine wpStill_nil ?_
          go_wp2_with fail
          refine wp_region_still_lit (by kernel_rfl) (by kernel_rfl) ?_
          simp only [World.drew_eq]
          repeat still_step
          still_call (still_of (rright_any _ _ _ oa))
          repeat still_step
          still_call (still_of (rright_any _ _ _ oa))
          repeat still_step
          still_call (still_of (rright_any _ _ _ oa))
          repeat still_step
          refine wpStill_nil ?_
          rw [one_form, two_form]
          have hz := Lib.hid (show refRnd (kI k) (ws.getD k 0) t = ⟨add32 (refOne (kI k) (ws[k]?.getD 0) t) (two t), t.a, t.b, t.c, add32 t.d (refOne (kI k) (ws[k]?.getD 0) t), t.e, t.f, t.g⟩ from rfl)
          generalize refOne (kI k) (ws[k]?.getD 0) t = x1 at *
          generalize two t = x2 at *
          go_wp2_with (refine wpList_store_row rfl 92 _ _ rfl wa.heap.size (stCells ⟨add32 x1 x2, t.a, t.b, t.c, add32 t.d x1, t.e, t.f, t.g⟩) rfl rfl 92 _ hcw.2.2.2.2.2.1 size45 rfl (st_all _) ?_)
          go_roundw
          case rel =>
            refine ⟨k + 1, by omega, by go_num, ?_⟩
            rw [hnx.out, ← refRnd_eq, hz.out]
            exact hcw.drew.drew.step _
          case measure => simp [intOf]; omega
        · have h64 : k = 64 := by omega
          have hd2 : decide ((k : Int) < 64) = false := by simp; omega
          rw [h64] at hcw
          clear h64
          have hdw := DW.start hcw
          clear hcw
          generalize rounds ws s 64 = t at *
          go_wp2_with fail
          go_loopw [16] (fun i wr => ∃ k : Nat, k ≤ 8 ∧ i = .int .i64 k ∧ DW s t k wa.heap.size w wr) (fun i _ => 8 - (intOf i).toNat)
          case atStart => exact ⟨0, by omega, rfl, hdw⟩
          case round =>
            clear hdw hk hlt
            rename_i k1 _ _ _
            obtain ⟨k, hk, rfl, hdw⟩ := hrel
            by_cases hlt : k < 8
            · obtain ⟨d1, d2, d3⟩ := hdw.one hlt
              have ik : (k : Int) < 8 := by omega
              have ik0 : (0 : Int) ≤ (k : Int) := by omega
              go_wp2_with fail
              refine wp_region_still_tail 9 (by kernel_rfl) (by kernel_rfl) ?_
              simp only [World.drew_eq]
              simp only [List.take_succ_cons, List.take_zero, List.drop_succ_cons, List.drop_zero]
              repeat still_step
              refine wpStill_nil ?_
              go_wp2
              go_roundw
              case rel => exact ⟨k + 1, by omega, by go_num, hdw.drew.step hlt⟩
              case measure => simp [intOf]; omega
            · have h8 : k = 8 := by omega
              rw [h8] at hdw
              clear h8
              obtain ⟨z1, z2, z3⟩ := hdw.end_
              clear hdw
              rw [← hend.out] at z3
              go_wp2_with (first
                | (refine wpList_load_row rfl 92 _ rfl w.heap.size rfl 92 _ (0, 0) _ z3 Tryz.underlying92 rfl size45 ?_)
                | (refine wpList_store_row rfl 92 _ _ rfl (w.heap.size + 1) (stCells (foldI s zs)) rfl rfl 92 _ z2 size45 rfl (st_all _) ?_))
              refine bodyPost_ret (results_cell_row rfl _ _ (w.heap.size + 1) 92 (stCells (foldI s zs)) (0, 0) _ rfl (setRow_heap _ _ _ _ _ _ z2) Tryz.underlying92 rfl size45) rfl ⟨rfl, below_setRow z1 (by omega) _⟩
end Go.Proofs.YtklhmneapegfpaaGreatDoor.Sha
