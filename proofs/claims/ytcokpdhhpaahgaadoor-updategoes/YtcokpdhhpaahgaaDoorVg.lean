/-
  What lies in memory while a law makes what is kept, and a request, of its own; a row of zeros made; conditions: as each states.
-/
import Derived.Test.YtcokpdhhpaahgaaDoorVd
import Derived.Test.YtcokpdhhpaahgaaDoorVp
namespace Go.Proofs.YtcokpdhhpaahgaaDoor
open Go.RowKit
set_option linter.unusedVariables false
set_option linter.unusedSimpArgs false

/-- A block with what is kept. -/
structure Sq (w0 : World) (p : Nat) (m : Mt) (w : World) : Prop where
  hp : w0.heap.size ≤ p
  ok : m.Ok
  hm : Has w p 27 m.cells
  hb : Below w0.heap.size w0 w
theorem sq_new {w0 w : World} (b : Below w0.heap.size w0 w) : Sq w0 w.heap.size zeroT (w.alloc (.cells zeroT.cells 27)) := ⟨b.size, zeroT_ok, has_new w 27 zeroT.cells, b.alloc b.size _⟩
theorem Sq.set {w0 w w' : World} {p : Nat} {m k : Mt} (h : Sq w0 p m w) (hk : k.Ok) (hg : Has w' p 27 k.cells) (on : Only (fun b => b = p) w w') : Sq w0 p k w' :=
  ⟨h.hp, hk, hg, h.hb.trans (on.to_below h.hb.size (fun b e => by have := h.hp; omega))⟩
/-- .. and a block with a request. -/
structure Sr (w0 : World) (p g : Nat) (m : Mt) (q : Rq) (w : World) : Prop where
  hp : w0.heap.size ≤ p
  hpg : p < g
  ok : m.Ok
  hm : Has w p 27 m.cells
  hq : Has w g 30 q.cells
  hb : Below w0.heap.size w0 w
theorem Sq.req {w0 w : World} {p : Nat} {m : Mt} (h : Sq w0 p m w) : Sr w0 p w.heap.size m zeroQ (w.alloc (.cells zeroQ.cells 30)) :=
  ⟨h.hp, h.hm.size, h.ok, h.hm.more _, has_new w 30 zeroQ.cells, h.hb.alloc h.hb.size _⟩
theorem Sr.setq {w0 w w' : World} {p g : Nat} {m : Mt} {q k : Rq} (h : Sr w0 p g m q w) (hg : Has w' g 30 k.cells) (on : Only (fun b => b = g) w w') : Sr w0 p g m k w' :=
  ⟨h.hp, h.hpg, h.ok, Has.only h.hm on (by have := h.hpg; omega), hg, h.hb.trans (on.to_below h.hb.size (fun b e => by have := h.hp; have := h.hpg; omega))⟩
theorem Sr.kept {w0 w w' : World} {p g : Nat} {m : Mt} {q : Rq} (h : Sr w0 p g m q w) (b : Below w.heap.size w w') : Sr w0 p g m q w' :=
  ⟨h.hp, h.hpg, h.ok, h.hm.kept b, h.hq.kept b, h.hb.trans (b.mono h.hb.size)⟩
theorem Sr.more {w0 w : World} {p g : Nat} {m : Mt} {q : Rq} (h : Sr w0 p g m q w) (o : Obj) : Sr w0 p g m q (w.alloc o) := h.kept ((Below.refl _ _).alloc (Nat.le_refl _) _)
theorem Sr.two {w0 w : World} {p g : Nat} {m : Mt} {q : Rq} (h : Sr w0 p g m q w) : Sr w0 p g m q ((w.alloc (.cells zeroT.cells 27)).alloc (.cells zeroR.cells 36)) :=
  h.kept (((Below.refl _ _).alloc (Nat.le_refl _) _).alloc (by simp) _)
theorem Sr.only {w0 w w' : World} {p g c : Nat} {m : Mt} {q : Rq} (h : Sr w0 p g m q w) (on : Only (fun b => b = c) w w') (hc : g < c) : Sr w0 p g m q w' :=
  ⟨h.hp, h.hpg, h.ok, Has.only h.hm on (by have := h.hpg; omega), Has.only h.hq on (by omega), h.hb.trans (on.to_below h.hb.size (fun b e => by have := h.hp; have := h.hpg; omega))⟩
/-- Both results. -/
structure Nz (p : Nat) (m : Mt) (r : Rp) (w : World) : Prop where
  ok : m.Ok
  hm : Has w p 27 m.cells
  hr : Has w (p + 1) 36 r.cells
theorem nz_new (w : World) : Nz w.heap.size zeroT zeroR ((w.alloc (.cells zeroT.cells 27)).alloc (.cells zeroR.cells 36)) := ⟨zeroT_ok, (has_new w 27 zeroT.cells).more _, has_new' _ 36 zeroR.cells _ (by simp)⟩
theorem Nz.kept {w w' : World} {p : Nat} {m : Mt} {r : Rp} (h : Nz p m r w) (b : Below w.heap.size w w') : Nz p m r w' := ⟨h.ok, h.hm.kept b, h.hr.kept b⟩
theorem Nz.setm {w w' : World} {p : Nat} {m k : Mt} {r : Rp} (h : Nz p m r w) (hk : k.Ok) (hg : Has w' p 27 k.cells) (on : Only (fun b => b = p) w w') : Nz p k r w' := ⟨hk, hg, Has.only h.hr on (by omega)⟩
theorem Nz.setr {w w' : World} {p : Nat} {m : Mt} {r s : Rp} (h : Nz p m r w) (hg : Has w' (p + 1) 36 s.cells) (on : Only (fun b => b = p + 1) w w') : Nz p m s w' := ⟨h.ok, Has.only h.hm on (by omega), hg⟩
theorem made_row {w : World} {z l : Nat} (h : Has w z 5 (zeroBytes l)) : Row w (some ⟨z, 0, none⟩) l (List.replicate l 0) := by
  have := has_row (L := List.replicate l 0) h (byt_rep _)
  rwa [List.length_replicate] at this
theorem built27p (k : Int) : Tryd.prog.built 27 [(3, .int .i64 k), (2, .int .i64 4)] = some (Mt.cells ⟨0, zeroI, zeroI, 4, k, zeroI, 0, 0⟩) := by kernel_rfl
/-- A row of bytes 0 made. -/
theorem wpList_mk {w : World} {ops : Array Oper} {rest : List Oper} {o : Oper} {a : Act} {Q : Exit → Act → World → Prop} (hgd : o.guard = none) (x y : Operand) (ho : o.op = .makeSlice 28 x y)
    (l : Nat) (hx : a.eval x = .int .i64 (l : Int)) (hy : a.eval y = .int .i64 (l : Int)) (hl : l ≤ 1000000)
    (h : wpList Tryd.prog ops Q rest (a.put o.dst (.slice (some ⟨w.heap.size, 0, none⟩) l l)) (w.alloc (.cells (zeroBytes l) 5))) : wpList Tryd.prog ops Q (o :: rest) a w :=
  wpList_plain hgd fun K hK => by
    have e := make_bytes .i64 .i64 l l (Nat.le_refl _) hl w
    unfold Oper.wp execOp
    simp only [ho, hx, hy, Sem.run_bind, e, Result.andThen_ok]
    exact hK _ _ h
/-- A request's bytes, stored. -/
theorem wpList_st28 {w : World} {ops : Array Oper} {rest : List Oper} {o : Oper} {a : Act} {Q : Exit → Act → World → Prop} (hgd : o.guard = none) (x y : Operand) (ho : o.op = .store 28 x y)
    (g : Nat) (A : Option Addr) (len cap : Nat) (bs : List Int) (hx : a.eval x = .pointer (some ⟨g, 2, none⟩)) (hy : a.eval y = .slice A len cap) (q : Rq) (hg : Has w g 30 q.cells)
    (h : ∀ w', Has w' g 30 (Rq.cells { q with A := A, len := len, cap := cap, bs := bs }) → Only (fun b => b = g) w w' → wpList Tryd.prog ops Q rest (a.put o.dst undef) w') : wpList Tryd.prog ops Q (o :: rest) a w :=
  wpList_plain hgd fun K hK => by
    obtain ⟨old, hold⟩ : ∃ old, w.cell? ⟨g, 2, none⟩ = some old := by rw [hg.at 2]; exact ⟨_, rfl⟩
    have hfz := hg.soft 2
    have hp := hg.put 2 (.slice A len cap)
    have hc : q.cells.setIfInBounds 2 (.slice A len cap) = Rq.cells { q with A := A, len := len, cap := cap, bs := bs } := rfl
    rw [hc] at hp
    have ex := h _ hp (only_set w ⟨g, 2, none⟩ _)
    have e : (Instr.storeAt 28 (.pointer (some ⟨g, 2, none⟩)) (.slice A len cap)).run Tryd.prog w = .ok () (w.setCell ⟨g, 2, none⟩ (.slice A len cap)) := by
      go_simp
    unfold Oper.wp execOp
    simp only [ho, hx, hy, Sem.run_bind, e, Result.andThen_ok]
    exact hK _ _ ex
theorem ld34' {W : World} {g k : Nat} {x : Int} (h : W.cell? ⟨g, k, none⟩ = some (.int .i64 x)) : (Instr.loadAt 34 (.pointer (some ⟨g, k, none⟩))).run Tryd.prog W = .ok (.int .i64 x) W := by
  go_simp
def zs7 : List Int := List.replicate 7 0
theorem zs7_byt : Byt zs7 := byt_rep _
theorem made_seven {w : World} {z : Nat} (h : Has w z 5 (zeroBytes 7)) : Row w (some ⟨z, 0, none⟩) 7 zs7 := made_row h
def imA : Im := ⟨1, 5, List.replicate 32 0⟩
def imB : Im := ⟨5, 7, List.replicate 32 0⟩
theorem imA_ok : imA.Ok := ⟨List.length_replicate, byt_rep _, i64_one, by show I64 5; unfold I64; omega⟩
theorem imB_ok : imB.Ok := ⟨List.length_replicate, byt_rep _, by show I64 5; unfold I64; omega, by show I64 7; unfold I64; omega⟩
theorem started_ok {k : Int} (h : I64 k) : Mt.Ok ⟨0, zeroI, zeroI, 4, k, zeroI, 0, 0⟩ := ⟨zeroI_ok, zeroI_ok, zeroI_ok, i64_zero, by show I64 4; unfold I64; omega, h, i64_zero, i64_zero⟩
theorem zero30_run : ∀ w : World, (zeroValue 30).run Tryd.prog w = .ok (.agg zeroQ.cells) w := (zero_of_info (P := Tryd.prog) (t := 30) (n := 3) (by kernel_rfl)).1
theorem fin_ok_0 : Mt.Ok ⟨0, imA, zeroI, 4, 0, zeroI, 0, 0⟩ := ok_h0 (started_ok i64_zero) imA_ok
theorem fin_ok_1 : Mt.Ok ⟨0, imA, zeroI, 4, 1, imB, 0, 0⟩ := ok_com (ok_h0 (started_ok i64_one) imA_ok) imB_ok
theorem fin_ok_2 : Mt.Ok ⟨0, imA, zeroI, 4, 2, imB, 1, 0⟩ := ok_gott (ok_com (ok_h0 (started_ok i64_two) imA_ok) imB_ok) i64_one
theorem fin_ok_3 {t : Int} (h : I64 t) : Mt.Ok ⟨0, imA, imB, 4, 3, zeroI, 0, t⟩ := ok_trials (ok_h1 (ok_h0 (started_ok (by unfold I64; omega)) imA_ok) imB_ok) h
end Go.Proofs.YtcokpdhhpaahgaaDoor
