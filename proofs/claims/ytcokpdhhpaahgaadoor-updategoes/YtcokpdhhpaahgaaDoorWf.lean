/-
  What lies in memory while an image comes, is tried and confirmed; what is built of an image; conditions: as each states.
-/
import Derived.Test.YtcokpdhhpaahgaaDoorWa
import Derived.Test.YtcokpdhhpaahgaaDoorWp
namespace Go.Proofs.YtcokpdhhpaahgaaDoor
open Go.RowKit
set_option linter.unusedVariables false
set_option linter.unusedSimpArgs false

/-- An image in a block. -/
theorem xs_ver {w : World} {g : Nat} {x : Im} (h : Has w g 24 x.cells) : w.cell? ⟨g, 0, none⟩ = some (.int .i64 x.ver) := (h.at 0).trans rfl
theorem xs_size {w : World} {g : Nat} {x : Im} (h : Has w g 24 x.cells) : w.cell? ⟨g, 1, none⟩ = some (.int .i64 x.size) := (h.at 1).trans rfl
theorem xs_dig {w : World} {g : Nat} {x : Im} (h : Has w g 24 x.cells) (hx : x.Ok) : (Instr.loadAt 22 (.pointer (some ⟨g, 2, none⟩))).run Tryd.prog w = .ok (.agg (nums x.dig).toArray) w := by
  refine run_loadAt_mid w g 2 22 (nums x.dig) _ ?_ Tryd.underlying22 rfl (size22l hx.1)
  intro j v hv
  rw [h.at]
  simp only [Im.cells, Im.list, List.getElem?_toArray]
  rw [show 2 + j = j + 1 + 1 by omega, List.getElem?_cons_succ, List.getElem?_cons_succ]; exact hv
theorem below_new {w w' : World} {o : Obj} (on : Only (fun b => b = w.heap.size) (w.alloc o) w') : Below w.heap.size w w' :=
  ((Below.refl _ _).alloc (Nat.le_refl _) _).trans (on.to_below (by simp) (fun b e => by omega))
structure Gw (w0 : World) (M : Mt) (x : Im) (w : World) : Prop where
  ok : M.Ok
  okx : x.Ok
  hm : Has w w0.heap.size 27 M.cells
  hx : Has w (w0.heap.size + 1) 24 x.cells
  hb : Below w0.heap.size w0 w
theorem gw_new {M : Mt} {x : Im} (w : World) (hm : M.Ok) (hx : x.Ok) : Gw w M x ((w.alloc (.cells M.cells 27)).alloc (.cells x.cells 24)) :=
  ⟨hm, hx, (has_new w 27 M.cells).more _, has_new' _ 24 x.cells _ (by simp), ((Below.refl _ _).alloc (Nat.le_refl _) _).alloc (by simp) _⟩
theorem Gw.kept {w0 w w' : World} {M : Mt} {x : Im} (h : Gw w0 M x w) (b : Below w.heap.size w w') : Gw w0 M x w' := ⟨h.ok, h.okx, h.hm.kept b, h.hx.kept b, h.hb.trans (b.mono h.hb.size)⟩
/-- .. and what was kept at first. -/
structure Gb (w0 : World) (p : Nat) (M m : Mt) (x : Im) (w : World) : Prop where
  ok : M.Ok
  okm : m.Ok
  okx : x.Ok
  lp : w0.heap.size + 1 < p
  hm : Has w w0.heap.size 27 M.cells
  hx : Has w (w0.heap.size + 1) 24 x.cells
  hw : Has w p 27 m.cells
  hb : Below w0.heap.size w0 w
theorem Gw.was {w0 w w' : World} {M : Mt} {x : Im} {o : Obj} (h : Gw w0 M x w) (hs : Has w' w.heap.size 27 M.cells) (on : Only (fun b => b = w.heap.size) (w.alloc o) w') : Gb w0 w.heap.size M M x w' :=
  have b := below_new on
  ⟨h.ok, h.ok, h.okx, h.hx.size, h.hm.kept b, h.hx.kept b, hs, h.hb.trans (b.mono h.hb.size)⟩
theorem Gb.kept {w0 w w' : World} {p : Nat} {M m : Mt} {x : Im} (h : Gb w0 p M m x w) (b : Below w.heap.size w w') : Gb w0 p M m x w' := ⟨h.ok, h.okm, h.okx, h.lp, h.hm.kept b, h.hx.kept b, h.hw.kept b, h.hb.trans (b.mono h.hb.size)⟩
theorem Gb.more {w0 w : World} {p : Nat} {M m : Mt} {x : Im} (h : Gb w0 p M m x w) (o : Obj) : Gb w0 p M m x (w.alloc o) := h.kept ((Below.refl _ _).alloc (Nat.le_refl _) _)
/-- .. and what is found beside, and the answer. -/
structure Gd (w0 : World) (p g r : Nat) (M m : Mt) (x : Im) (f : Fc) (s : Rp) (w : World) : Prop where
  ok : M.Ok
  okm : m.Ok
  okx : x.Ok
  okf : f.Ok
  lp : w0.heap.size + 1 < p
  lg : p < g
  lr : g < r
  hm : Has w w0.heap.size 27 M.cells
  hx : Has w (w0.heap.size + 1) 24 x.cells
  hw : Has w p 27 m.cells
  hf : Has w g 32 f.cells
  hr : Has w r 36 s.cells
  hb : Below w0.heap.size w0 w
theorem Gb.all {w0 w : World} {p g : Nat} {M m : Mt} {x : Im} {f : Fc} (h : Gb w0 p M m x w) (hf : Has w g 32 f.cells) (ok : f.Ok) (lg : p < g) : Gd w0 p g w.heap.size M m x f zeroR (w.alloc (.cells zeroR.cells 36)) :=
  ⟨h.ok, h.okm, h.okx, ok, h.lp, lg, hf.size, h.hm.more _, h.hx.more _, h.hw.more _, hf.more _, has_new w 36 zeroR.cells, h.hb.alloc h.hb.size _⟩
theorem Gd.kept {w0 w w' : World} {p g r : Nat} {M m : Mt} {x : Im} {f : Fc} {s : Rp} (h : Gd w0 p g r M m x f s w) (b : Below w.heap.size w w') : Gd w0 p g r M m x f s w' :=
  ⟨h.ok, h.okm, h.okx, h.okf, h.lp, h.lg, h.lr, h.hm.kept b, h.hx.kept b, h.hw.kept b, h.hf.kept b, h.hr.kept b, h.hb.trans (b.mono h.hb.size)⟩
theorem Gd.more {w0 w : World} {p g r : Nat} {M m : Mt} {x : Im} {f : Fc} {s : Rp} (h : Gd w0 p g r M m x f s w) (o : Obj) : Gd w0 p g r M m x f s (w.alloc o) := h.kept ((Below.refl _ _).alloc (Nat.le_refl _) _)
theorem Gd.drew {w0 w : World} {p g r : Nat} {M m : Mt} {x : Im} {f : Fc} {s : Rp} (h : Gd w0 p g r M m x f s w) : Gd w0 p g r M m x f s w.drew := h.kept ((Below.refl _ _).drew)
theorem Gd.two {w0 w : World} {p g r : Nat} {M m : Mt} {x : Im} {f : Fc} {s : Rp} (h : Gd w0 p g r M m x f s w) : Gd w0 p g r M m x f s ((w.alloc (.cells zeroT.cells 27)).alloc (.cells zeroR.cells 36)) :=
  h.kept (((Below.refl _ _).alloc (Nat.le_refl _) _).alloc (by simp) _)
theorem Gd.setm {w0 w w' : World} {p g r : Nat} {M m k : Mt} {x : Im} {f : Fc} {s : Rp} (h : Gd w0 p g r M m x f s w) (hk : k.Ok) (hg : Has w' w0.heap.size 27 k.cells) (on : Only (fun b => b = w0.heap.size) w w') : Gd w0 p g r k m x f s w' :=
  have h1 := h.lp
  have h2 := h.lg
  have h3 := h.lr
  ⟨hk, h.okm, h.okx, h.okf, h.lp, h.lg, h.lr, hg, Has.only h.hx on (by omega), Has.only h.hw on (by omega), Has.only h.hf on (by omega), Has.only h.hr on (by omega), h.hb.trans (on.to_below h.hb.size (fun b e => by omega))⟩
theorem Gd.setr {w0 w w' : World} {p g r : Nat} {M m : Mt} {x : Im} {f : Fc} {s k : Rp} (h : Gd w0 p g r M m x f s w) (hg : Has w' r 36 k.cells) (on : Only (fun b => b = r) w w') : Gd w0 p g r M m x f k w' :=
  have h1 := h.lp
  have h2 := h.lg
  have h3 := h.lr
  ⟨h.ok, h.okm, h.okx, h.okf, h.lp, h.lg, h.lr, Has.only h.hm on (by omega), Has.only h.hx on (by omega), Has.only h.hw on (by omega), Has.only h.hf on (by omega), hg, h.hb.trans (on.to_below h.hb.size (fun b e => by omega))⟩
theorem Gd.only {w0 w w' : World} {p g r c : Nat} {M m : Mt} {x : Im} {f : Fc} {s : Rp} (h : Gd w0 p g r M m x f s w) (on : Only (fun b => b = c) w w') (hc : r < c) : Gd w0 p g r M m x f s w' :=
  have h1 := h.lp
  have h2 := h.lg
  have h3 := h.lr
  ⟨h.ok, h.okm, h.okx, h.okf, h.lp, h.lg, h.lr, Has.only h.hm on (by omega), Has.only h.hx on (by omega), Has.only h.hw on (by omega), Has.only h.hf on (by omega), Has.only h.hr on (by omega), h.hb.trans (on.to_below h.hb.size (fun b e => by omega))⟩
theorem Gd.new {w0 w : World} {p g r : Nat} {M m : Mt} {x : Im} {f : Fc} {s : Rp} (h : Gd w0 p g r M m x f s w) (t : TypeId) (cs : Array Value) (B : Nat) (e : w.heap.size = B) : Has (w.alloc (.cells cs t)) B t cs := has_new' w t cs B e
theorem fc_size {f : Fc} (h : f.Ok) : zeroF.cells.size = f.cells.size := by
  rw [show zeroF.cells.size = 35 by simp [Fc.cells, fl_len zeroF_ok], show f.cells.size = 35 by simp [Fc.cells, fl_len h]]
theorem zero32_run : ∀ w : World, (zeroValue 32).run Tryd.prog w = .ok (.agg zeroF.cells) w := (zero_of_info (P := Tryd.prog) (t := 32) (n := 35) (by kernel_rfl)).1
theorem conv_one (w : World) (x : Int) : (convert 28 28 (.slice (some ⟨w.heap.size, 0, none⟩) 1 1)).run Tryd.prog (w.alloc (.cells #[.int .u8 x] 5)) = .ok (.slice (some ⟨w.heap.size, 0, none⟩) 1 1) (w.alloc (.cells #[.int .u8 x] 5 (1, 2))) :=
  Lib.run_convert_bytes_const w 28 5 #[.int .u8 x] 1 1 Tryd.underlying28 Tryd.underlying5
theorem conv_two (w : World) (o : Obj) (x : Int) : (convert 28 28 (.slice (some ⟨w.heap.size + 1, 0, none⟩) 1 1)).run Tryd.prog ((w.alloc o).alloc (.cells #[.int .u8 x] 5)) = .ok (.slice (some ⟨w.heap.size + 1, 0, none⟩) 1 1) ((w.alloc o).alloc (.cells #[.int .u8 x] 5 (1, 2))) := by
  have := conv_one (w.alloc o) x
  rwa [World.size_alloc] at this
theorem key_row (w : World) : Row (w.alloc (.cells #[.int .u8 107] 5 (1, 2))) (some ⟨w.heap.size, 0, none⟩) 1 [107] := row_text w [107] (byt_one (by omega)) 1 rfl (1, 2)
/-- Two images that are the same, guarded or not. -/
theorem wpList_eqG {w : World} {ops : Array Oper} {rest : List Oper} {o : Oper} {a : Act} {Q : Exit → Act → World → Prop} (x y : Operand) (ho : o.op = .binOp .eql 24 x y 24) (i k : Im) (hx : a.eval x = .agg i.cells) (hy : a.eval y = .agg k.cells) (hi : i.Ok) (hik : k = i) (hw : Region.wanted o (yielded ops a.tmps) = true)
    (h : wpList Tryd.prog ops Q rest (a.put o.dst (.bool true)) w) : wpList Tryd.prog ops Q (o :: rest) a w :=
  wpList_step fun K hK => by
    subst hik
    rw [if_pos hw]
    have h1 := run_eqGuard_agg (P := Tryd.prog) w .eql 24 x y k.cells k.cells (by kernel_rfl)
    have h2 := run_eql_struct (P := Tryd.prog) w 24 k.cells k.cells
    rw [eq24 hi hi w, decide_eq_true rfl] at h2
    unfold Oper.wp execOp
    simp only [ho, hx, hy, Sem.run_bind, h1, h2, Result.andThen_ok]
    exact hK _ _ h
theorem yields_eq24 {ops : Array Oper} {S : World → Prop} {o : Oper} {a : Act} (hw : Region.wanted o (yielded ops a.tmps) = true) (x y : Operand) (ho : o.op = .binOp .eql 24 x y 24) (i : Im) (hx : a.eval x = .agg i.cells) (hy : a.eval y = .agg i.cells) (hi : i.Ok) :
    YieldsIf Tryd.prog ops S o (.bool true) a :=
  Or.inl ⟨hw, fun W hW => by
    have h1 := run_eqGuard_agg (P := Tryd.prog) W .eql 24 x y i.cells i.cells (by kernel_rfl)
    have h2 := run_eql_struct (P := Tryd.prog) W 24 i.cells i.cells
    rw [eq24 hi hi W, decide_eq_true rfl] at h2
    unfold execOp
    simp only [ho, hx, hy, Sem.run_bind, h1, Result.andThen_ok]
    simp [h1, h2]⟩
/-- A request's kind, stored. -/
theorem wpList_kind {w : World} {ops : Array Oper} {rest : List Oper} {o : Oper} {a : Act} {Q : Exit → Act → World → Prop} (hgd : o.guard = none) (x y : Operand) (ho : o.op = .store 3 x y)
    (g : Nat) (k : Int) (hx : a.eval x = .pointer (some ⟨g, 0, none⟩)) (hy : a.eval y = .int .i64 k) (q : Rq) (hg : Has w g 30 q.cells)
    (h : ∀ w', Has w' g 30 (Rq.cells { q with kind := k }) → Only (fun b => b = g) w w' → wpList Tryd.prog ops Q rest (a.put o.dst undef) w') : wpList Tryd.prog ops Q (o :: rest) a w :=
  wpList_plain hgd fun K hK => by
    obtain ⟨old, hold⟩ : ∃ old, w.cell? ⟨g, 0, none⟩ = some old := by rw [hg.at 0]; exact ⟨_, rfl⟩
    have hfz := hg.soft 0
    have hp := hg.put 0 (.int .i64 k)
    have hc : q.cells.setIfInBounds 0 (.int .i64 k) = Rq.cells { q with kind := k } := rfl
    rw [hc] at hp
    have ex := h _ hp (only_set w ⟨g, 0, none⟩ _)
    have e : (Instr.storeAt 3 (.pointer (some ⟨g, 0, none⟩)) (.int .i64 k)).run Tryd.prog w = .ok () (w.setCell ⟨g, 0, none⟩ (.int .i64 k)) := by
      go_simp
    unfold Oper.wp execOp
    simp only [ho, hx, hy, Sem.run_bind, e, Result.andThen_ok]
    exact hK _ _ ex
/-- Thirty-two numbers, one by one. -/
theorem dig32 {P : List Int → Prop} (h : ∀ d0 d1 d2 d3 d4 d5 d6 d7 d8 d9 d10 d11 d12 d13 d14 d15 d16 d17 d18 d19 d20 d21 d22 d23 d24 d25 d26 d27 d28 d29 d30 d31 : Int, P [d0, d1, d2, d3, d4, d5, d6, d7, d8, d9, d10, d11, d12, d13, d14, d15, d16, d17, d18, d19, d20, d21, d22, d23, d24, d25, d26, d27, d28, d29, d30, d31]) (d : List Int) (hd : d.length = 32) : P d := by
  rcases d with _ | ⟨d0, d⟩
  · simp at hd
  rcases d with _ | ⟨d1, d⟩
  · simp at hd
  rcases d with _ | ⟨d2, d⟩
  · simp at hd
  rcases d with _ | ⟨d3, d⟩
  · simp at hd
  rcases d with _ | ⟨d4, d⟩
  · simp at hd
  rcases d with _ | ⟨d5, d⟩
  · simp at hd
  rcases d with _ | ⟨d6, d⟩
  · simp at hd
  rcases d with _ | ⟨d7, d⟩
  · simp at hd
  rcases d with _ | ⟨d8, d⟩
  · simp at hd
  rcases d with _ | ⟨d9, d⟩
  · simp at hd
  rcases d with _ | ⟨d10, d⟩
  · simp at hd
  rcases d with _ | ⟨d11, d⟩
  · simp at hd
  rcases d with _ | ⟨d12, d⟩
  · simp at hd
  rcases d with _ | ⟨d13, d⟩
  · simp at hd
  rcases d with _ | ⟨d14, d⟩
  · simp at hd
  rcases d with _ | ⟨d15, d⟩
  · simp at hd
  rcases d with _ | ⟨d16, d⟩
  · simp at hd
  rcases d with _ | ⟨d17, d⟩
  · simp at hd
  rcases d with _ | ⟨d18, d⟩
  · simp at hd
  rcases d with _ | ⟨d19, d⟩
  · simp at hd
  rcases d with _ | ⟨d20, d⟩
  · simp at hd
  rcases d with _ | ⟨d21, d⟩
  · simp at hd
  rcases d with _ | ⟨d22, d⟩
  · simp at hd
  rcases d with _ | ⟨d23, d⟩
  · simp at hd
  rcases d with _ | ⟨d24, d⟩
  · simp at hd
  rcases d with _ | ⟨d25, d⟩
  · simp at hd
  rcases d with _ | ⟨d26, d⟩
  · simp at hd
  rcases d with _ | ⟨d27, d⟩
  · simp at hd
  rcases d with _ | ⟨d28, d⟩
  · simp at hd
  rcases d with _ | ⟨d29, d⟩
  · simp at hd
  rcases d with _ | ⟨d30, d⟩
  · simp at hd
  rcases d with _ | ⟨d31, d⟩
  · simp at hd
  rcases d with _ | ⟨d32, d⟩
  · exact h _ _ _ _ _ _ _ _ _ _ _ _ _ _ _ _ _ _ _ _ _ _ _ _ _ _ _ _ _ _ _ _
  · simp at hd
theorem built52 (s : ByteArray) (v n : Int) (d : List Int) (hd : d.length = 32) : Tryd.prog.built 52 [(0, .string s), (1, .agg (Im.cells ⟨v, n, d⟩))] = some (Man.Mn.cells ⟨s, v, n, d⟩) := by
  revert hd
  intro hd
  exact dig32 (P := fun d => Tryd.prog.built 52 [(0, .string s), (1, .agg (Im.cells ⟨v, n, d⟩))] = some (Man.Mn.cells ⟨s, v, n, d⟩)) (by intros; kernel_rfl) d hd
theorem built32d (d : List Int) (hd : d.length = 32) : Tryd.prog.built 32 [(0, .bool true), (1, .bool true), (2, .agg (nums d).toArray)] = some (Fc.cells ⟨true, true, d, false⟩) :=
  dig32 (P := fun d => Tryd.prog.built 32 [(0, .bool true), (1, .bool true), (2, .agg (nums d).toArray)] = some (Fc.cells ⟨true, true, d, false⟩)) (by intros; kernel_rfl) d hd
end Go.Proofs.YtcokpdhhpaahgaaDoor
