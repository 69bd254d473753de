/-
  What lies in memory while a law asks; where nothing can be written nothing turns; conditions: as each states.
-/
import Derived.Test.YtcokpdhhpaahgaaDoorVa
import Derived.Test.YtcokpdhhpaahgaaDoorXq
namespace Go.Proofs.YtcokpdhhpaahgaaDoor
open Go.RowKit
set_option linter.unusedVariables false
set_option linter.unusedSimpArgs false

theorem docRight_is {m : Mt} (w : World) (hm : m.Ok) (b : Bool) (h : rightB m = b) : Calls Tryd.prog 16 #[.agg m.cells] w fun e w' => e = .returned (.bool b) ∧ Below w.heap.size w w' := by rw [← h]; exact docRight_any m w hm
/-- A request that came in. -/
structure QIn (w : World) (q : Rq) : Prop where
  kind : I64 q.kind
  num : I64 q.num
  row : Row w q.A q.len q.bs
  cap : q.len ≤ q.cap
/-- Three arguments. -/
structure Lq (w0 : World) (q : Rq) (f : Fc) (m : Mt) (w : World) : Prop where
  okf : f.Ok
  ok : m.Ok
  hm : Has w w0.heap.size 27 m.cells
  hq : Has w (w0.heap.size + 1) 30 q.cells
  hf : Has w (w0.heap.size + 1 + 1) 32 f.cells
  hb : Below w0.heap.size w0 w
theorem lq_new {m : Mt} {f : Fc} (q : Rq) (w : World) (hm : m.Ok) (hf : f.Ok) : Lq w q f m (((w.alloc (.cells m.cells 27)).alloc (.cells q.cells 30)).alloc (.cells f.cells 32)) :=
  ⟨hf, hm, ((has_new w 27 m.cells).more _).more _, (has_new' _ 30 q.cells _ (by simp)).more _, has_new' _ 32 f.cells _ (by simp), (((Below.refl _ _).alloc (Nat.le_refl _) _).alloc (by simp) _).alloc (by simp; omega) _⟩
theorem Lq.kept {w0 w w' : World} {m : Mt} {q : Rq} {f : Fc} (h : Lq w0 q f m w) (b : Below w.heap.size w w') : Lq w0 q f m w' :=
  ⟨h.okf, h.ok, h.hm.kept b, h.hq.kept b, h.hf.kept b, h.hb.trans (b.mono h.hb.size)⟩
theorem Lq.two {w0 w : World} {m : Mt} {q : Rq} {f : Fc} (h : Lq w0 q f m w) : Lq w0 q f m ((w.alloc (.cells zeroT.cells 27)).alloc (.cells zeroR.cells 36)) :=
  h.kept (((Below.refl _ _).alloc (Nat.le_refl _) _).alloc (by simp) _)
theorem Lq.only {w0 w w' : World} {m : Mt} {q : Rq} {f : Fc} {p : Nat} (h : Lq w0 q f m w) (on : Only (fun b => b = p) w w') (hp : w0.heap.size + 1 + 1 < p) : Lq w0 q f m w' :=
  ⟨h.okf, h.ok, Has.only h.hm on (by omega), Has.only h.hq on (by omega), Has.only h.hf on (by omega), h.hb.trans (on.to_below h.hb.size (fun b e => by omega))⟩
theorem Lq.high {w0 w : World} {m : Mt} {q : Rq} {f : Fc} (h : Lq w0 q f m w) : w0.heap.size + 1 + 1 < w.heap.size := h.hf.size
/-- Both results of a call, in blocks of their own. -/
structure Nq (w0 : World) (p : Nat) (m : Mt) (r : Rp) (w : World) : Prop where
  hp : w0.heap.size + 1 + 1 < p
  ok : m.Ok
  hm : Has w p 27 m.cells
  hr : Has w (p + 1) 36 r.cells
theorem nq_new {w0 w : World} (h : w0.heap.size + 1 + 1 < w.heap.size) : Nq w0 w.heap.size zeroT zeroR ((w.alloc (.cells zeroT.cells 27)).alloc (.cells zeroR.cells 36)) :=
  ⟨h, zeroT_ok, (has_new w 27 zeroT.cells).more _, has_new' _ 36 zeroR.cells _ (by simp)⟩
theorem Nq.kept {w0 w w' : World} {p : Nat} {m : Mt} {r : Rp} (h : Nq w0 p m r w) (b : Below w.heap.size w w') : Nq w0 p m r w' := ⟨h.hp, h.ok, h.hm.kept b, h.hr.kept b⟩
theorem Nq.setm {w0 w w' : World} {p : Nat} {m k : Mt} {r : Rp} (h : Nq w0 p m r w) (hk : k.Ok) (hg : Has w' p 27 k.cells) (on : Only (fun b => b = p) w w') : Nq w0 p k r w' := ⟨h.hp, hk, hg, Has.only h.hr on (by omega)⟩
theorem Nq.setr {w0 w w' : World} {p : Nat} {m : Mt} {r s : Rp} (h : Nq w0 p m r w) (hg : Has w' (p + 1) 36 s.cells) (on : Only (fun b => b = p + 1) w w') : Nq w0 p m s w' := ⟨h.hp, h.ok, Has.only h.hm on (by omega), hg⟩
theorem Nq.only {w0 w w' : World} {p g : Nat} {m : Mt} {r : Rp} (h : Nq w0 p m r w) (on : Only (fun b => b = g) w w') (h1 : g ≠ p) (h2 : g ≠ p + 1) : Nq w0 p m r w' := ⟨h.hp, h.ok, Has.only h.hm on (by omega), Has.only h.hr on (by omega)⟩
/-- What a request does, in any world in which its bytes lie. -/
theorem asks (m : Mt) (q : Rq) (f : Fc) (quota : Int) (w : World) (hm : m.Ok) (hf : f.Ok) (hqu : I64 quota) (hq : QIn w q) (hn : q.len ≤ 1000) (B : World) (hB : Below w.heap.size w B) :
    Calls Tryd.prog 10 #[.agg m.cells, .agg q.cells, .agg f.cells, .int .i64 quota] B (Does (stepM m q.kind q.num q.bs f quota) B) :=
  do_any m q f quota B hm hf hqu hq.kind hq.num (row_lt hq.row (Nat.le_refl _) hB) hq.cap (by omega)

def Fc.wear (f : Fc) : Fc := { f with worn := true }
theorem wear_ok {f : Fc} (h : f.Ok) : f.wear.Ok := h
theorem wear_is (f : Fc) : f.wear.worn = true := rfl
theorem bad_ne {m : Mt} {e : Int} (h : e ≠ 0) : (bad m e).1 = m ∧ (bad m e).2.err ≠ 0 := ⟨rfl, h⟩
theorem mayE_worn (m : Mt) (i : Im) (f : Fc) (quota : Int) : mayE m i f.wear quota ≠ 0 := by
  unfold mayE
  split
  · omega
  split
  · omega
  split
  · omega
  split
  · omega
  rw [if_pos (wear_is f)]
  omega
/-- Where nothing can be written nothing turns. -/
theorem worn_step {m : Mt} {kind num : Int} {bs : List Int} {f : Fc} {quota : Int} (hr : rightB m = true) :
    (stepM m kind num bs f.wear quota).1 = m ∧ (kind = 5 → (stepM m kind num bs f.wear quota).2 = ⟨0, m.act, 0⟩) ∧ (kind = 9 → (stepM m kind num bs f.wear quota).2.err = 0) ∧ (kind ≠ 5 → kind ≠ 9 → (stepM m kind num bs f.wear quota).2.err ≠ 0) := by
  have hr' : ¬ rightB m = false := by rw [hr]; decide
  unfold stepM
  rw [if_neg hr']
  by_cases k1 : kind = 1
  · subst k1
    rw [if_pos rfl]
    have key : (beginM m bs f.wear quota).1 = m ∧ (beginM m bs f.wear quota).2.err ≠ 0 := by
      unfold beginM
      split
      · exact bad_ne (by omega)
      split
      · exact bad_ne (by omega)
      rw [if_pos (mayE_worn _ _ _ _)]
      exact bad_ne (mayE_worn _ _ _ _)
    exact ⟨key.1, fun h => by omega, fun h => by omega, fun _ _ => key.2⟩
  rw [if_neg k1]
  by_cases k2 : kind = 2
  · subst k2
    rw [if_pos rfl]
    have key : (writeM m num bs.length f.wear).1 = m ∧ (writeM m num bs.length f.wear).2.err ≠ 0 := by
      unfold writeM
      split
      · exact bad_ne (by omega)
      split
      · exact bad_ne (by omega)
      split
      · exact bad_ne (by omega)
      rw [if_pos (wear_is f)]
      exact bad_ne (by omega)
    exact ⟨key.1, fun h => by omega, fun h => by omega, fun _ _ => key.2⟩
  rw [if_neg k2]
  by_cases k3 : kind = 3
  · subst k3
    rw [if_pos rfl]
    have key : (verifyM m f.wear).1 = m ∧ (verifyM m f.wear).2.err ≠ 0 := by
      unfold verifyM
      split
      · exact bad_ne (by omega)
      split
      · exact bad_ne (by omega)
      split
      · exact bad_ne (by omega)
      rw [if_pos (wear_is f)]
      exact bad_ne (by omega)
    exact ⟨key.1, fun h => by omega, fun h => by omega, fun _ _ => key.2⟩
  rw [if_neg k3]
  by_cases k4 : kind = 4
  · subst k4
    rw [if_pos rfl]
    have key : (commitM m f.wear).1 = m ∧ (commitM m f.wear).2.err ≠ 0 := by
      unfold commitM
      split
      · exact bad_ne (by omega)
      rw [if_pos (wear_is f)]
      exact bad_ne (by omega)
    exact ⟨key.1, fun h => by omega, fun h => by omega, fun _ _ => key.2⟩
  rw [if_neg k4]
  by_cases k5 : kind = 5
  · subst k5
    rw [if_pos rfl]
    have key : bootM m f.wear = (m, ⟨0, m.act, 0⟩) := by unfold bootM; rw [if_pos (.inr (wear_is f))]
    rw [key]
    exact ⟨rfl, fun _ => rfl, fun h => by omega, fun h => by omega⟩
  rw [if_neg k5]
  by_cases k6 : kind = 6
  · subst k6
    rw [if_pos rfl]
    have key : (confirmM m f.wear).1 = m ∧ (confirmM m f.wear).2.err ≠ 0 := by
      unfold confirmM
      split
      · exact bad_ne (by omega)
      rw [if_pos (wear_is f)]
      exact bad_ne (by omega)
    exact ⟨key.1, fun h => by omega, fun h => by omega, fun _ _ => key.2⟩
  rw [if_neg k6]
  by_cases k7 : kind = 7
  · subst k7
    rw [if_pos rfl]
    have key : (rollM m f.wear).1 = m ∧ (rollM m f.wear).2.err ≠ 0 := by
      unfold rollM
      split
      · exact bad_ne (by omega)
      rw [if_pos (wear_is f)]
      exact bad_ne (by omega)
    exact ⟨key.1, fun h => by omega, fun h => by omega, fun _ _ => key.2⟩
  rw [if_neg k7]
  by_cases k8 : kind = 8
  · subst k8
    rw [if_pos rfl]
    have key : (abortM m f.wear).1 = m ∧ (abortM m f.wear).2.err ≠ 0 := by
      unfold abortM
      split
      · exact bad_ne (by omega)
      rw [if_pos (wear_is f)]
      exact bad_ne (by omega)
    exact ⟨key.1, fun h => by omega, fun h => by omega, fun _ _ => key.2⟩
  rw [if_neg k8]
  by_cases k9 : kind = 9
  · subst k9
    rw [if_pos rfl]
    exact ⟨rfl, fun h => by omega, fun _ => rfl, fun _ h => absurd rfl h⟩
  rw [if_neg k9]
  exact ⟨rfl, fun h => absurd h k5, fun h => absurd h k9, fun _ _ => by show (1 : Int) ≠ 0; omega⟩
/-- Whether something can be written, stored. -/
theorem wpList_worn {w : World} {ops : Array Oper} {rest : List Oper} {o : Oper} {a : Act} {Q : Exit → Act → World → Prop} (hgd : o.guard = none) (x y : Operand) (ho : o.op = .store 4 x y)
    (g : Nat) (hx : a.eval x = .pointer (some ⟨g, 34, none⟩)) (hy : a.eval y = .bool true) (f : Fc) (hg : Has w g 32 f.cells) (hf : f.Ok)
    (h : ∀ w', Has w' g 32 f.wear.cells → Only (fun b => b = g) w w' → wpList Tryd.prog ops Q rest (a.put o.dst undef) w') : wpList Tryd.prog ops Q (o :: rest) a w :=
  wpList_plain hgd fun K hK => by
    have hl : (nums f.dig).length = 32 := by rw [nums_len, hf.1]
    have hs : f.cells.size = 35 := by simp [Fc.cells, fl_len hf]
    obtain ⟨old, hold⟩ : ∃ old, w.cell? ⟨g, 34, none⟩ = some old := by rw [hg.at 34]; exact ⟨_, Array.getElem?_eq_getElem (by omega)⟩
    have hfz := hg.soft 34
    have hp := hg.put 34 (.bool true)
    have hc : f.cells.setIfInBounds 34 (.bool true) = f.wear.cells := by
      simp only [Fc.cells, Fc.list, Fc.wear, List.setIfInBounds_toArray]
      rw [show 34 = 32 + 1 + 1 by omega, List.set_cons_succ, List.set_cons_succ, List.set_append_right _ _ (by omega), hl]
      rfl
    rw [hc] at hp
    have ex := h _ hp (only_set w ⟨g, 34, none⟩ _)
    have e : (Instr.storeAt 4 (.pointer (some ⟨g, 34, none⟩)) (.bool true)).run Tryd.prog w = .ok () (w.setCell ⟨g, 34, none⟩ (.bool true)) := by
      go_simp
    unfold Oper.wp execOp
    simp only [ho, hx, hy, Sem.run_bind, e, Result.andThen_ok]
    exact hK _ _ ex
theorem Lq.wear {w0 w w' : World} {m : Mt} {q : Rq} {f : Fc} (h : Lq w0 q f m w) (hg : Has w' (w0.heap.size + 1 + 1) 32 f.wear.cells) (on : Only (fun b => b = w0.heap.size + 1 + 1) w w') : Lq w0 q f.wear m w' :=
  ⟨wear_ok h.okf, h.ok, Has.only h.hm on (by omega), Has.only h.hq on (by omega), hg, h.hb.trans (on.to_below h.hb.size (fun b e => by omega))⟩
end Go.Proofs.YtcokpdhhpaahgaaDoor
