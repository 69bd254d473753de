/-
  The program's operations: workCut, work, Program, Erase, Cut, Power; conditions: the flash is there, fewer than a million operations were done, the row does not lie in the flash.
-/
import Derived.Test.YtklhmneapegfpaaGreatDoorStay
import Derived.Laws.CopyRow
namespace Go.Proofs.YtklhmneapegfpaaGreatDoor
open Go.RowKit
set_option linter.unusedVariables false
set_option linter.unusedSimpArgs false

theorem At.ne {w : World} {T g m k : Nat} {t : TypeId} {cs : Array Value} {S : Fs} (h : At w T g m k t cs S) (ht : t = 57 ∨ t = 59) : g ≠ m ∧ g ≠ k ∧ m ≠ k :=
  ⟨h.str.bk.ne h.mem (by rcases ht with rfl | rfl <;> decide), h.str.bk.ne h.wear (by rcases ht with rfl | rfl <;> decide), h.mem.ne h.wear (by decide)⟩
theorem At.in3 {w : World} {T g m k : Nat} {t : TypeId} {cs : Array Value} {S : Fs} (h : At w T g m k t cs S) : ∀ b, In3 g m k b → b < T := by
  rintro b (rfl | rfl | rfl)
  · exact h.gT
  · exact h.mT
  · exact h.kT
/-- What a call that works on a flash leaves. -/
def FlTo (T g m k : Nat) (S : Fs) (w w' : World) : Prop := Fl w' T g m k S ∧ Only (In3 g m k) w w'
def RlTo (T g m k : Nat) (S : Fs) (w w' : World) : Prop := Rl w' T g m k S ∧ Only (In3 g m k) w w'
theorem ok_ops {S : Fs} (h : S.Ok) : Fs.Ok { S with ops := S.ops + 1 } := ⟨h.byt, h.len, h.few, h.mask⟩
theorem ok_off {S : Fs} (h : S.Ok) (o : Bool) : Fs.Ok { S with off := o } := ⟨h.byt, h.len, h.few, h.mask⟩
theorem ok_none {S : Fs} (h : S.Ok) : Fs.Ok { S with cut := none } := ⟨h.byt, h.len, h.few, fun _ _ e => by cases e⟩
theorem ok_cut {S : Fs} (h : S.Ok) {q q' : Nat} {ms : List Int} (hc : S.cut = some (q, ms)) : Fs.Ok { S with cut := some (q', ms) } := ⟨h.byt, h.len, h.few, fun _ _ e => by cases e; exact h.mask _ _ hc⟩
theorem ok_mem {S : Fs} (h : S.Ok) {ys : List Int} (hb : Byt ys) (hl : ys.length = S.mem.length) : Fs.Ok { S with mem := ys } := ⟨hb, by rw [show ({ S with mem := ys } : Fs).mem = ys from rfl, hl]; exact h.len, h.few, h.mask⟩
/-- One more operation. -/
theorem fl_ops {w : World} {T g m k : Nat} {S : Fs} (hf : Fl w T g m k S) : FlTo T g m k { S with ops := S.ops + 1 } w (w.setCell ⟨g, 2, none⟩ (.int .i64 ((S.ops : Int) + 1))) := by
  obtain ⟨c, h, A, n, z, a, hc⟩ := hf
  obtain ⟨n1, n2, n3⟩ := a.ne (.inl rfl)
  have o : Only (fun b => b = g) w (w.setCell ⟨g, 2, none⟩ (.int .i64 ((S.ops : Int) + 1))) := (Only.refl (fun b => b = g) w).setCell rfl _
  exact ⟨⟨c, h, A, n, z, ⟨ok_ops a.ok, a.gT, a.mT, a.kT, a.str.put 2 _, a.mem.only o (fun e => n1 e.symm), a.wear.only o (fun e => n2 e.symm)⟩, hc.only o (fun b e => e ▸ a.gT)⟩, o.mono fun b e => .inl e⟩
theorem fl_off {w : World} {T g m k : Nat} {S : Fs} (hf : Fl w T g m k S) (x : Bool) : FlTo T g m k { S with off := x } w (w.setCell ⟨g, 3, none⟩ (.bool x)) := by
  obtain ⟨c, h, A, n, z, a, hc⟩ := hf
  obtain ⟨n1, n2, n3⟩ := a.ne (.inl rfl)
  have o : Only (fun b => b = g) w (w.setCell ⟨g, 3, none⟩ (.bool x)) := (Only.refl (fun b => b = g) w).setCell rfl _
  exact ⟨⟨c, h, A, n, z, ⟨ok_off a.ok x, a.gT, a.mT, a.kT, a.str.put 3 _, a.mem.only o (fun e => n1 e.symm), a.wear.only o (fun e => n2 e.symm)⟩, hc.only o (fun b e => e ▸ a.gT)⟩, o.mono fun b e => .inl e⟩
/-- One operation fewer is ahead of the cut. -/
theorem fl_ahead {w : World} {T g m k : Nat} {S : Fs} (hf : Fl w T g m k S) {q : Nat} {ms : List Int} (hS : S.cut = some (q + 1, ms)) : FlTo T g m k { S with cut := some (q, ms) } w (w.setCell ⟨g, 5, none⟩ (.int .i64 (q : Int))) := by
  obtain ⟨c, h, A, n, z, a, hc⟩ := hf
  obtain ⟨n1, n2, n3⟩ := a.ne (.inl rfl)
  have o : Only (fun b => b = g) w (w.setCell ⟨g, 5, none⟩ (.int .i64 (q : Int))) := (Only.refl (fun b => b = g) w).setCell rfl _
  have hc' := hc.only o (fun b e => e ▸ a.gT)
  rw [hS] at hc'
  obtain ⟨d1, d2, d3, d4, d5, d6⟩ := hc'
  exact ⟨⟨c, q, A, n, z, ⟨ok_cut a.ok hS, a.gT, a.mT, a.kT, a.str.put 5 _, a.mem.only o (fun e => n1 e.symm), a.wear.only o (fun e => n2 e.symm)⟩, d1, rfl, by unfold Fits63 at *; omega, d4, d5, d6⟩, o.mono fun b e => .inl e⟩
/-- The cells of a cut. -/
def cutCells (c : Bool) (h : Int) (M : Value) : Array Value := #[.bool c, .int .i64 h, M]
theorem built51 : Tryz.prog.built 55 [] = some (cutCells false 0 (.slice none 0 0)) := by kernel_rfl
theorem size51 : (Tryz.prog.info? 55).map (·.size) = some 3 := by kernel_rfl
theorem wpList_build_to {w : World} {ops : Array Oper} {rest : List Oper} {o : Oper} {a : Act} {Q : Exit → Act → World → Prop} (hg : o.guard = none) (t : TypeId) (parts : Array (Nat × Operand)) (ho : o.op = .build t parts)
    (cells : Array Value) (hb : Tryz.prog.built t (parts.map fun (i, x) => (i, a.eval x)).toList = some cells) (h : wpList Tryz.prog ops Q rest (a.put o.dst (.agg cells)) w) : wpList Tryz.prog ops Q (o :: rest) a w :=
  wpList_build hg t parts ho (by rw [hb]; rfl) (by rw [hb]; exact h)
/-- A cut stored into a flash's struct. -/
theorem wpList_store_cut {w : World} {ops : Array Oper} {rest : List Oper} {o : Oper} {a : Act} {Q : Exit → Act → World → Prop} (hgd : o.guard = none) (x y : Operand) (ho : o.op = .store 55 x y)
    (g : Nat) (c : Bool) (h : Int) (A : Option Addr) (n z : Nat) (hx : a.eval x = .pointer (some ⟨g, 4, none⟩)) (hy : a.eval y = .agg (cutCells c h (.slice A n z))) (m k N L op : Nat) (off c' : Bool) (h' : Int) (M' : Value)
    (hg : Has w g 57 (fcells m k N L op off c' h' M'))
    (hK : ∀ w', w' = w.setRow g (fcells m k N L op off c h (.slice A n z)) → wpList Tryz.prog ops Q rest (a.put o.dst undef) w') : wpList Tryz.prog ops Q (o :: rest) a w := by
  refine wpList_plain hgd fun K' hKK => ?_
  have hst := run_storeCells_at (P := Tryz.prog) g 4 57 (cutCells c h (.slice A n z)).toList 0 (fcells m k N L op off c' h' M') w hg (by simp [fcells, cutCells]) (fun v hv => by
    simp [cutCells] at hv
    rcases hv with rfl | rfl | rfl <;> rfl)
  have e2 : (List.take (4 + 0) (fcells m k N L op off c' h' M').toList ++ (cutCells c h (.slice A n z)).toList ++ List.drop (4 + 0 + (cutCells c h (.slice A n z)).toList.length) (fcells m k N L op off c' h' M').toList).toArray = fcells m k N L op off c h (.slice A n z) := rfl
  rw [e2] at hst
  obtain ⟨i, hi, hsz⟩ := Option.map_eq_some_iff.1 size51
  unfold Oper.wp execOp
  simp only [ho, hx, hy, Instr.storeAt, Instr.sureAddr, Sem.run_bind, Sem.run_pure, Result.andThen_ok]
  have hv : (storeVar 55 ⟨g, 4, none⟩ (.agg (cutCells c h (.slice A n z)))).run Tryz.prog w = .ok () (w.setRow g (fcells m k N L op off c h (.slice A n z))) := by
    have h8 : (cutCells c h (.slice A n z)).size = 3 := rfl
    simp [storeVar, sizeOf, typeInfo, hi, hsz, Value.cells, h8, hst]
  rw [hv]
  exact hKK _ _ (hK _ rfl)
theorem fl_store {w : World} {T g m k : Nat} {S : Fs} (hf : Fl w T g m k S) (c : Bool) (h : Int) (A : Option Addr) (n z : Nat) (u : Option (Nat × List Int)) (hok : Fs.Ok { S with cut := u }) (hu : ∀ w', Only (fun b => b = g) w w' → CutIs w' T u c h A n z) :
    FlTo T g m k { S with cut := u } w (w.setRow g (fcells m k S.mem.length S.wear.length S.ops S.off c h (.slice A n z))) := by
  obtain ⟨c', h', A', n', z', a, hc⟩ := hf
  obtain ⟨n1, n2, n3⟩ := a.ne (.inl rfl)
  have o : Only (fun b => b = g) w (w.setRow g (fcells m k S.mem.length S.wear.length S.ops S.off c h (.slice A n z))) := (Only.refl (fun b => b = g) w).setRow rfl _
  exact ⟨⟨c, h, A, n, z, ⟨hok, a.gT, a.mT, a.kT, setRow_heap _ _ _ _ _ _ a.str, a.mem.only o (fun e => n1 e.symm), a.wear.only o (fun e => n2 e.symm)⟩, hu _ o⟩, o.mono fun b e => .inl e⟩
set_option maxRecDepth 100000 in
theorem power_any {T g m k : Nat} {S : Fs} (w : World) (hf : Fl w T g m k S) : Calls Tryz.prog 18 #[.pointer (some ⟨g, 0, none⟩)] w fun e w' => e = .returned (.tuple #[]) ∧ FlTo T g m k (power S) w w' := by
  have F1 := fl_off hf false
  obtain ⟨c, h, A, n, z, ha, hcut⟩ := hf
  obtain ⟨c0, c1, c2, c3, c4, c5, c6⟩ := fl_cells ha.str
  have s3 := ha.str.soft 3
  generalize hw1 : w.setCell ⟨g, 3, none⟩ (.bool false) = w1 at *
  obtain ⟨f1, o1⟩ := F1
  have F2 := fl_store f1 false 0 none 0 0 none (ok_none f1.ok) (fun w' _ => rfl)
  obtain ⟨c', h', A', n', z', ha1, hcut1⟩ := f1
  have hs1 := ha1.str
  clear ha hcut c0 c1 c2 c4 c5 c6 ha1 hcut1
  have b51 := built51
  go_enter Tryz.func18, Tryz.ntmps18
  go_wp2_with (first
    | (go_at_call 30; refine (there_any g _).mono ?_; rintro e w1 ⟨rfl, rfl⟩)
    | (refine wpList_build_to rfl 55 _ rfl _ b51 ?_)
    | ((with_reducible refine wpList_store_cut rfl _ _ rfl g false 0 none 0 0 rfl rfl m k _ _ _ _ _ _ _ hs1 ?_); rintro w2 rfl))
  go_end0
  exact ⟨rfl, F2.1, o1.trans F2.2⟩
/-- The bytes are others. -/
theorem fl_mem {w w' : World} {T g m k : Nat} {S : Fs} (hf : Fl w T g m k S) (o : Only (fun b => b = m) w w') {ys : List Int} (hb : Byt ys) (hl : ys.length = S.mem.length) (hm : Bk w' m 5 (nums ys)) : FlTo T g m k { S with mem := ys } w w' := by
  obtain ⟨c, h, A, n, z, a, hc⟩ := hf
  obtain ⟨n1, n2, n3⟩ := a.ne (.inl rfl)
  refine ⟨⟨c, h, A, n, z, ⟨ok_mem a.ok hb hl, a.gT, a.mT, a.kT, ?_, hm, a.wear.only o (fun e => n3 e.symm)⟩, hc.only o (fun b e => e ▸ a.mT)⟩, o.mono fun b e => .inr (.inl e)⟩
  have := a.str.only o n1
  rw [← hl] at this
  exact this
/-- So many bytes are laid. -/
def Laying (m a : Nat) (mem zs ms : List Int) (n : Nat) (w : World) (i : Value) (wr : World) : Prop := ∃ j : Nat, i = .int .i64 (j : Int) ∧ j ≤ n ∧ Bk wr m 5 (nums (mixed mem a zs ms j)) ∧ Only (fun b => b = m) w wr
theorem row_or {w w' : World} {p : Nat → Prop} {A : Option Addr} {n : Nat} {zs : List Int} (h : Row w A n zs) (o : Only p w w') (hA : n = 0 ∨ ∀ x, A = some x → ¬ p x.block) : Row w' A n zs := by
  rcases hA with h0 | hA
  · exact ⟨h.1, h.2.1, .inl h0⟩
  · exact row_keep h o hA
set_option maxRecDepth 100000 in
set_option maxHeartbeats 2000000 in
theorem workCut_any {T g m k : Nat} {S : Fs} (q : Nat) (ms : List Int) (hcut : S.cut = some (q, ms)) (a : Nat) (A : Option Addr) (n z : Nat) (zs : List Int) (w : World) (hf : Fl w T g m k S) (hr : Row w A n zs) (ha : a + n ≤ S.mem.length) (hA : n = 0 ∨ ∀ x, A = some x → x.block ≠ m) :
    Calls Tryz.prog 100 #[.pointer (some ⟨g, 0, none⟩), .int .i64 (a : Int), .slice A n z] w fun e w' => e = .returned (.tuple #[]) ∧ FlTo T g m k { S with mem := put S.mem a zs ms, off := true, cut := none } w w' := by
  have hF := hf
  obtain ⟨c, h, B, n', z', hat, hc⟩ := hf
  have hne := hat.ne (.inl rfl)
  have hmem := hat.mem
  have hok := hat.ok
  have hN : S.mem.length ≤ 128000 := by have := hok.len; have := hok.few; omega
  rw [hcut] at hc
  obtain ⟨rfl, rfl, hq63, hmr, hnz, hmT⟩ := hc
  obtain ⟨hmb, hml⟩ := hok.mask _ _ hcut
  have hml2 : n' ≤ 1000000 := by rw [← hmr.1]; exact hml
  have hl := hr.1
  have hrb := hr.2.1
  have hmT' : ∀ x, B = some x → ¬ x.block = m := fun x hx e => by have := hmT x hx; have := hat.mT; omega
  have hst : Laying m a S.mem zs ms n w (.int .i64 0) w := ⟨0, rfl, by omega, by rw [mixed_none]; exact hmem, Only.refl _ _⟩
  have hmid : ∀ wr, Only (fun b => b = m) w wr → wr.cell? ⟨g, 0, none⟩ = some (.slice (some ⟨m, 0, none⟩) S.mem.length S.mem.length) ∧ wr.cell? ⟨g, 6, none⟩ = some (.slice B n' z') ∧ Row wr B n' ms ∧ Row wr A n zs := fun wr o => by
    have hs := hat.str.only o hne.1
    exact ⟨hs.at 0, hs.at 6, row_keep hmr o hmT', row_or hr o hA⟩
  have HMID := Lib.hid hmid
  have HF := Lib.hid hF
  have HH := Lib.hid (show Byt zs ∧ zs.length = n ∧ Byt ms ∧ Byt S.mem from ⟨hrb, hl, hmb, hok.byt⟩)
  clear hat hmid hmr hmT hmT' hF hr hrb hmb hok hml hl hmem hnz hA
  obtain ⟨n1, n2, n3⟩ := hne
  generalize hNe : S.mem.length = N at *
  have HN := Lib.hid hNe
  clear hNe
  go_enter Tryz.func100, Tryz.ntmps100
  go_wp2_with fail
  go_loopw [11] (fun i wr => Laying m a S.mem zs ms n w i wr) (fun i _ => n - (intOf i).toNat)
  case atStart => exact hst
  case round =>
    obtain ⟨j, rfl, hj, hbk, ho⟩ := hrel
    clear hst
    have j0 : (0 : Int) ≤ (j : Int) := by omega
    by_cases hlt : j < n
    · have j1 : (j : Int) < (n : Int) := by omega
      obtain ⟨c0, c6, hmr, hr⟩ := HMID.out wr ho
      obtain ⟨b, off, rfl, hw, hcell⟩ := row_open hr (by omega)
      have qb := hcell j hlt
      have hlen : a + j < (mixed S.mem a zs ms j).length := by rw [mixed_len, HN.out]; omega
      have qm := bk_byte hbk (a + j) hlen
      have hlen2 : a + j < S.mem.length := by rw [HN.out]; omega
      rw [mixed_keep _ _ _ _ _ hlen2] at qm
      have hup := mixed_more S.mem a zs ms j hlen2
      unfold mixI at hup
      have i5 : (a : Int) + (j : Int) < (N : Int) := by omega
      have i6 : (0 : Int) ≤ (a : Int) + (j : Int) := by omega
      have e7 : ((a : Int) + (j : Int)).toNat = a + j := by omega
      have SC := Lib.hid (stay_any g B n' z' ms j wr c6 hmr hml2 (by omega))
      have HBK := Lib.hid hbk
      have HUP := Lib.hid hup
      have HO := Lib.hid ho
      clear hcell hup hbk hmr hr ho c6
      generalize S.mem.getD (a + j) 0 = y at *
      generalize zs.getD j 0 = x at *
      generalize mAt ms j = s at *
      go_wp2_with (go_at_call 105; refine SC.out.mono ?_; rintro e w1 ⟨rfl, H1⟩)
      have o1 := HO.out.below H1
      have c0' : w1.cell? ⟨g, 0, none⟩ = some (.slice (some ⟨m, 0, none⟩) N N) := (HMID.out w1 o1).1
      have bk1 : Bk w1 m 5 (nums (mixed S.mem a zs ms j)) := HBK.out.keep (H1.block _ HBK.out.size)
      have qm' : w1.cell? ⟨m, a + j, none⟩ = some (.int .u8 y) := (H1.cell (p := ⟨m, a + j, none⟩) HBK.out.size).trans qm
      have qf := bk1.soft (a + j)
      have hup1 : Bk (w1.drew.setCell ⟨m, a + j, none⟩ (.int .u8 (bits .or .u8 (bits .and .u8 y s) (bits .andNot .u8 x s)))) m 5 (nums (mixed S.mem a zs ms (j + 1))) := by
        have := bk_put_byte bk1 (a + j) hlen (bits .or .u8 (bits .and .u8 y s) (bits .andNot .u8 x s))
        rw [HUP.out] at this
        exact this.keep rfl
      have o2 : Only (fun b => b = m) w (w1.drew.setCell ⟨m, a + j, none⟩ (.int .u8 (bits .or .u8 (bits .and .u8 y s) (bits .andNot .u8 x s)))) := o1.drew.setCell rfl _
      clear c0 qm H1 bk1 o1 qb
      go_region
      go_wp2
      go_roundw
      case rel => exact ⟨j + 1, by go_num, by omega, hup1, o2⟩
      case measure => simp [intOf]; omega
    · obtain rfl : j = n := by omega
      have F1 := fl_mem HF.out ho (mixed_byt HH.out.2.2.2 HH.out.1 HH.out.2.2.1 a j) (mixed_len ..) hbk
      rw [show mixed S.mem a zs ms j = put S.mem a zs ms by unfold put; rw [HH.out.2.1]] at F1
      obtain ⟨f1, o1⟩ := F1
      have F2 := fl_off f1 true
      have c3 : wr.cell? ⟨g, 3, none⟩ = some (.bool S.off) := by
        obtain ⟨_, _, _, _, _, ha1, _⟩ := f1
        exact (fl_cells ha1.str).2.2.2.1
      have s3 : wr.frozen? ⟨g, 3, none⟩ = false := by
        obtain ⟨_, _, _, _, _, ha1, _⟩ := f1
        exact ha1.str.soft 3
      generalize hw1 : wr.setCell ⟨g, 3, none⟩ (.bool true) = w1 at *
      obtain ⟨f2, o2⟩ := F2
      have F3 := fl_store f2 false 0 none 0 0 none (ok_none f2.ok) (fun w' _ => rfl)
      obtain ⟨c', h', A', n', z', ha1, hcut1⟩ := f2
      have hs1 := ha1.str
      clear hbk ho hcut1 ha1 f1
      have b51 := built51
      go_wp2_with (first
        | (refine wpList_build_to rfl 55 _ rfl _ b51 ?_)
        | ((with_reducible refine wpList_store_cut rfl _ _ rfl g false 0 none 0 0 rfl rfl m k _ _ _ _ _ _ _ hs1 ?_); rintro w2 rfl))
      go_end0
      exact ⟨rfl, F3.1, (o1.trans o2).trans F3.2⟩
end Go.Proofs.YtklhmneapegfpaaGreatDoor
