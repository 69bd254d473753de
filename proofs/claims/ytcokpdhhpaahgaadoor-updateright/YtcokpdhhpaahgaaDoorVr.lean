/-
  The walk of the law UpdateRight: what may be kept may be kept behind any requests; conditions: none.
-/
import Derived.Test.YtcokpdhhpaahgaaDoorVg
import Derived.Test.YtcokpdhhpaahgaaDoorVb
import Derived.Deep.Cut
import Derived.Deep.CutRange
namespace Go.Proofs.YtcokpdhhpaahgaaDoor.updateRight
open Go.RowKit
set_option linter.unusedVariables false
set_option linter.unusedSimpArgs false

/-- A request in memory, its cells from off on; what was found beside. -/
def QAt (w : World) (b off : Nat) (q : Rq) : Prop := ∀ j v, q.list[j]? = some v → w.cell? ⟨b, off + j, none⟩ = some v
def FAt (w : World) (b off : Nat) (f : Fc) : Prop := ∀ j v, f.list[j]? = some v → w.cell? ⟨b, off + j, none⟩ = some v
theorem qat_lt {w w' : World} {b off B : Nat} {q : Rq} (h : QAt w b off q) (hB : b < B) (hb : Below B w w') : QAt w' b off q := fun j v hv => (hb.cell (p := ⟨b, off + j, none⟩) hB).trans (h j v hv)
theorem fat_lt {w w' : World} {b off B : Nat} {f : Fc} (h : FAt w b off f) (hB : b < B) (hb : Below B w w') : FAt w' b off f := fun j v hv => (hb.cell (p := ⟨b, off + j, none⟩) hB).trans (h j v hv)
theorem ql_size (q : Rq) : (Tryd.prog.info? 30).map (·.size) = some q.list.length := by show _ = some 3; kernel_rfl
theorem fl_size {f : Fc} (h : f.Ok) : (Tryd.prog.info? 32).map (·.size) = some f.list.length := by rw [fl_len h]; kernel_rfl
theorem ldq {w : World} {b off : Nat} {q : Rq} (h : QAt w b off q) : (Instr.loadAt 30 (.pointer (some ⟨b, off, none⟩))).run Tryd.prog w = .ok (.agg q.cells) w :=
  run_loadAt_mid w b off 30 q.list _ h Tryd.underlying30 rfl (ql_size q)
theorem ldf {w : World} {b off : Nat} {f : Fc} (h : FAt w b off f) (hf : f.Ok) : (Instr.loadAt 32 (.pointer (some ⟨b, off, none⟩))).run Tryd.prog w = .ok (.agg f.cells) w :=
  run_loadAt_mid w b off 32 f.list _ h Tryd.underlying32 rfl (fl_size hf)
theorem QAt.kind {w : World} {b off : Nat} {q : Rq} (h : QAt w b off q) : w.cell? ⟨b, off, none⟩ = some (.int .i64 q.kind) := h 0 _ rfl
theorem QAt.bytes {w : World} {b off : Nat} {q : Rq} (h : QAt w b off q) : w.cell? ⟨b, off + 2, none⟩ = some (.slice q.A q.len q.cap) := h 2 _ rfl
/-- What holds between two rounds. -/
structure Cr (w0 : World) (m : Mt) (w : World) : Prop where
  ok : m.Ok
  hm : Has w w0.heap.size 27 m.cells
  right : rightB m = true
  hb : Below w0.heap.size w0 w
/-- .. and in a round: the request and what was found beside. -/
structure Dr (w0 : World) (m : Mt) (b off : Nat) (q : Rq) (c on : Nat) (f : Fc) (w : World) : Prop where
  ok : m.Ok
  hm : Has w w0.heap.size 27 m.cells
  right : rightB m = true
  hb : Below w0.heap.size w0 w
  lb : b < w0.heap.size
  lc : c < w0.heap.size
  hq : QAt w b off q
  hf : FAt w c on f
  okf : f.Ok
theorem Dr.kept {w0 w w' : World} {m : Mt} {b off c on : Nat} {q : Rq} {f : Fc} (h : Dr w0 m b off q c on f w) (hb : Below w.heap.size w w') : Dr w0 m b off q c on f w' :=
  ⟨h.ok, h.hm.kept hb, h.right, h.hb.trans (hb.mono h.hb.size), h.lb, h.lc, qat_lt h.hq (Nat.lt_of_lt_of_le h.lb h.hb.size) hb, fat_lt h.hf (Nat.lt_of_lt_of_le h.lc h.hb.size) hb, h.okf⟩
theorem Dr.drew {w0 w : World} {m : Mt} {b off c on : Nat} {q : Rq} {f : Fc} (h : Dr w0 m b off q c on f w) : Dr w0 m b off q c on f w.drew := h.kept ((Below.refl _ _).drew)
theorem Dr.more {w0 w : World} {m : Mt} {b off c on : Nat} {q : Rq} {f : Fc} (h : Dr w0 m b off q c on f w) (o : Obj) : Dr w0 m b off q c on f (w.alloc o) := h.kept ((Below.refl _ _).alloc (Nat.le_refl _) _)
theorem Dr.only {w0 w w' : World} {m : Mt} {b off c on : Nat} {q : Rq} {f : Fc} {g : Nat} (h : Dr w0 m b off q c on f w) (o : Only (fun x => x = g) w w') (hg : w0.heap.size < g) : Dr w0 m b off q c on f w' :=
  have hB : Below w0.heap.size w w' := o.to_below h.hb.size (fun b e => by omega)
  ⟨h.ok, Has.only h.hm o (by omega), h.right, h.hb.trans hB, h.lb, h.lc, qat_lt h.hq h.lb hB, fat_lt h.hf h.lc hB, h.okf⟩
theorem Dr.set {w0 w w' : World} {m k : Mt} {b off c on : Nat} {q : Rq} {f : Fc} (h : Dr w0 m b off q c on f w) (hk : k.Ok) (hr : rightB k = true) (hg : Has w' w0.heap.size 27 k.cells) (o : Only (fun x => x = w0.heap.size) w w') : Cr w0 k w' :=
  ⟨hk, hg, hr, h.hb.trans (o.to_below h.hb.size (fun b e => by omega))⟩
theorem Cr.kept {w0 w w' : World} {m : Mt} (h : Cr w0 m w) (b : Below w.heap.size w w') : Cr w0 m w' := ⟨h.ok, h.hm.kept b, h.right, h.hb.trans (b.mono h.hb.size)⟩
/-- Both results, in blocks of their own. -/
structure Nu (p u : Nat) (m : Mt) (r : Rp) (w : World) : Prop where
  ok : m.Ok
  hm : Has w p 27 m.cells
  hr : Has w u 36 r.cells
  ne : p ≠ u
theorem Nu.kept {w w' : World} {p u : Nat} {m : Mt} {r : Rp} (h : Nu p u m r w) (b : Below w.heap.size w w') : Nu p u m r w' := ⟨h.ok, h.hm.kept b, h.hr.kept b, h.ne⟩
/-- Behind the request. -/
structure After (w0 : World) (m : Mt) (b off : Nat) (q : Rq) (c on : Nat) (f : Fc) (p u : Nat) (k : Mt) (r : Rp) (w : World) : Prop where
  d : Dr w0 m b off q c on f w
  r : Nu p u k r w
  lp : w0.heap.size < p
theorem Dr.new {w0 w : World} {m : Mt} {b off c on : Nat} {q : Rq} {f : Fc} (h : Dr w0 m b off q c on f w) (t : TypeId) (cs : Array Value) (B : Nat) (e : w.heap.size = B) : Has (w.alloc (.cells cs t)) B t cs := has_new' w t cs B e
/-- A state of the loop. -/
def Round (w0 : World) (n : Nat) (i a b : Value) (w : World) : Prop := ∃ (k : Nat) (m : Mt), i = .int .i64 (k : Int) ∧ k ≤ n ∧ Cr w0 m w
theorem one_of {x : Mt × Rp} {m : Mt} {k : Int} (h : Fine m k x) : (x.1.act = m.act) ∨ (x.1.act ≠ m.act ∧ k = 6 ∧ m.phase = 3) := by
  by_cases e : x.1.act = m.act
  · exact .inl e
  · exact .inr ⟨e, h.act e⟩
/-- What is kept, before the loop. -/
structure Br (w0 : World) (m : Mt) (w : World) : Prop where
  ok : m.Ok
  hm : Has w w0.heap.size 27 m.cells
  hb : Below w0.heap.size w0 w
theorem Br.kept {w0 w w' : World} {m : Mt} (h : Br w0 m w) (b : Below w.heap.size w w') : Br w0 m w' := ⟨h.ok, h.hm.kept b, h.hb.trans (b.mono h.hb.size)⟩
theorem br_new {m : Mt} (w : World) (hm : m.Ok) : Br w m (w.alloc (.cells m.cells 27)) := ⟨hm, has_new w 27 m.cells, (Below.refl _ _).alloc (Nat.le_refl _) _⟩
set_option maxRecDepth 100000 in
set_option maxHeartbeats 40000000 in
theorem walk (m : Mt) (a : Option Addr) (n cap : Nat) (ql : Nat → Rq) (a2 : Option Addr) (n2 cap2 : Nat) (fl : Nat → Fc) (quota : Int) (w : World) (hm : m.Ok) (hq : QRow w a n ql) (hn : n ≤ maxLen) (hf : FRow w a2 n2 fl) (hn2 : n2 ≤ maxLen) (wq : (Lit.int .i64 quota).wf = true) :
    Calls Tryd.prog 4 #[.agg m.cells, .slice a n cap, .slice a2 n2 cap2, .int .i64 quota] w fun e w' => e = .returned (.bool true) ∧ Below w.heap.size w w' := by
  unfold maxLen at hn hn2
  have hz27 := zero27_run
  have hz36 := zero36_run
  have HLV := Lib.hid (alive_any (w.alloc (.cells m.cells 27)))
  have hqu : I64 quota := bounds_i64 wq
  have G := Lib.hid (br_new w hm)
  have HR0 := fun b h W => docRight_is (m := m) W hm b h
  cases hb : rightB m with
  | false =>
    have HR := Lib.hid (HR0 false hb)
    clear HR0 hb
    go_enter Tryd.func4, Tryd.ntmps4
    go_wp2_with (first
      | (go_at_call 9; (with_reducible refine HLV.out.mono ?_); rintro e w1 ⟨rfl, b1⟩; replace G := Lib.hid (G.out.kept b1); clear b1 HLV)
      | (go_at_call 16; (with_reducible refine (HR.out _).mono ?_); rintro e w1 ⟨rfl, b1⟩; replace G := Lib.hid (G.out.kept b1); clear b1 HR)
      | (refine wpList_ld 27 _ rfl _ _ (ld27 G.out.hm G.out.ok) rfl rfl ?_))
    go_ret
    exact ⟨rfl, G.out.hb⟩
  | true =>
  have HR := Lib.hid (HR0 true hb)
  clear HR0
  by_cases h40 : 40 < n
  · have d40 : decide (40 < (n : Int)) = true := decide_eq_true (by omega)
    clear hb
    go_enter Tryd.func4, Tryd.ntmps4
    go_wp2_with (first
      | (go_at_call 9; (with_reducible refine HLV.out.mono ?_); rintro e w1 ⟨rfl, b1⟩; replace G := Lib.hid (G.out.kept b1); clear b1 HLV)
      | (go_at_call 16; (with_reducible refine (HR.out _).mono ?_); rintro e w1 ⟨rfl, b1⟩; replace G := Lib.hid (G.out.kept b1); clear b1 HR)
      | (refine wpList_ld 27 _ rfl _ _ (ld27 G.out.hm G.out.ok) rfl rfl ?_))
    go_ret
    exact ⟨rfl, G.out.hb⟩
  have d40 : decide (40 < (n : Int)) = false := decide_eq_false (by omega)
  by_cases hlt : n2 < n
  · have dlt : decide ((n2 : Int) < (n : Int)) = true := decide_eq_true (by omega)
    clear hb
    go_enter Tryd.func4, Tryd.ntmps4
    go_wp2_with (first
      | (go_at_call 9; (with_reducible refine HLV.out.mono ?_); rintro e w1 ⟨rfl, b1⟩; replace G := Lib.hid (G.out.kept b1); clear b1 HLV)
      | (go_at_call 16; (with_reducible refine (HR.out _).mono ?_); rintro e w1 ⟨rfl, b1⟩; replace G := Lib.hid (G.out.kept b1); clear b1 HR)
      | (refine wpList_ld 27 _ rfl _ _ (ld27 G.out.hm G.out.ok) rfl rfl ?_))
    go_ret
    exact ⟨rfl, G.out.hb⟩
  have dlt : decide ((n2 : Int) < (n : Int)) = false := decide_eq_false (by omega)
  have HB := Lib.hid hb
  have HQ := Lib.hid hq
  have HF := Lib.hid hf
  have HQU := Lib.hid hqu
  clear hb hq hf hqu wq
  go_enter Tryd.func4, Tryd.ntmps4
  go_wp2_with (first
    | (go_at_call 9; (with_reducible refine HLV.out.mono ?_); rintro e w1 ⟨rfl, b1⟩; replace G := Lib.hid (G.out.kept b1); clear b1 HLV)
    | (go_at_call 16; (with_reducible refine (HR.out _).mono ?_); rintro e w1 ⟨rfl, b1⟩; replace G := Lib.hid (G.out.kept b1); clear b1 HR)
    | (refine wpList_ld 27 _ rfl _ _ (ld27 G.out.hm G.out.ok) rfl rfl ?_))
  go_loopw [10, 11, 12] (Round w n) (fun i _ _ _ => n - (intOf i).toNat)
  case atStart => exact ⟨0, m, rfl, Nat.zero_le _, ⟨G.out.ok, G.out.hm, HB.out, G.out.hb⟩⟩
  case round =>
    obtain ⟨k, x, rfl, hk, hC⟩ := hrel
    have C := Lib.hid hC
    clear hC G
    by_cases hkn : k < n
    · obtain ⟨b, off, rfl, hbw, hqs⟩ : ∃ b off, a = some ⟨b, off, none⟩ ∧ b < w.heap.size ∧ ∀ i, i < n → (∀ j v, (ql i).list[j]? = some v → w.cell? ⟨b, off + i * 3 + j, none⟩ = some v) ∧ QIn w (ql i) := by
        rcases HQ.out with e | e
        · omega
        · exact e
      obtain ⟨c, on, rfl, hcw, hfs⟩ : ∃ b off, a2 = some ⟨b, off, none⟩ ∧ b < w.heap.size ∧ ∀ i, i < n2 → (∀ j v, (fl i).list[j]? = some v → w.cell? ⟨b, off + i * 35 + j, none⟩ = some v) ∧ (fl i).Ok := by
        rcases HF.out with e | e
        · omega
        · exact e
      obtain ⟨hq1, hqi⟩ := hqs k hkn
      have hkn2 : k < n2 := by omega
      obtain ⟨hf1, hfo⟩ := hfs k hkn2
      have D := Lib.hid (Dr.mk C.out.ok C.out.hm C.out.right C.out.hb hbw hcw (qat_lt (off := off + k * 3) hq1 hbw C.out.hb) (fat_lt (off := on + k * 35) hf1 hcw C.out.hb) hfo)
      clear hqs hfs hq1 hf1
      obtain ⟨q, hqe⟩ : ∃ q, ql k = q := ⟨_, rfl⟩
      obtain ⟨f, hfe⟩ : ∃ f, fl k = f := ⟨_, rfl⟩
      rw [hqe] at D hqi
      rw [hfe] at D hfo
      clear hqe hfe HQ HF
      have dkn : decide ((k : Int) < (n : Int)) = true := decide_eq_true (by omega)
      have LQ := Lib.hid (ld28 D.out.hq.bytes)
      by_cases hl : 1000 < q.len
      · have dl : decide (1000 < (q.len : Int)) = true := decide_eq_true (by omega)
        clear C
        go_wp2_with (refine wpList_ld 28 _ rfl _ _ LQ.out rfl rfl ?_)
        go_ret
        exact ⟨rfl, D.out.hb⟩
      have dl : decide (1000 < (q.len : Int)) = false := decide_eq_false (by omega)
      have HA0 := fun B hB => asks x q f quota w C.out.ok hfo HQU.out hqi (by omega) B hB
      have hF : Fine x q.kind (stepM x q.kind q.num q.bs f quota) := fine_step C.out.right
      have hxo : (stepM x q.kind q.num q.bs f quota).1.Ok := step_ok C.out.ok hqi.row.2.1
      obtain ⟨y, hy⟩ : ∃ y, stepM x q.kind q.num q.bs f quota = y := ⟨_, rfl⟩
      rw [hy] at hF hxo
      simp only [hy] at HA0
      obtain ⟨xm, xe, xn, xg⟩ := y
      have hl1 : decide (xm.least < x.least) = false := decide_eq_false (by have : x.least ≤ xm.least := hF.least; omega)
      have XO := Lib.hid (show xm.Ok from hxo)
      have HA := Lib.hid HA0
      have HR2 := Lib.hid (fun W => docRight_is (m := xm) W hxo true hF.right)
      have HRI := Lib.hid (show rightB xm = true from hF.right)
      have OKF := Lib.hid hfo
      have hq0 := one_of hF
      have he0 : xe ≠ 0 → xm = x := hF.err
      simp only at hq0
      clear HA0 hF hxo hy hqi hfo hl C
      have HQ0 := Lib.hid hq0
      have HE0 := Lib.hid he0
      clear hq0 he0
      go_wp2_with (refine wpList_ld 28 _ rfl _ _ LQ.out rfl rfl ?_; clear LQ)
      go_cut [11, 12] from 34 to 99 (fun s11 s12 wx => ∃ p u, s11 = .pointer (some ⟨p, 0, none⟩) ∧ s12 = .pointer (some ⟨u, 0, none⟩) ∧ After w x b (off + k * 3) q c (on + k * 35) f p u xm ⟨xe, xn, xg⟩ wx)
      case first =>
        refine wp_region_held_drew (S := (fun W => Has W w.heap.size 27 (x).cells ∧ QAt W b (off + k * 3) q ∧ FAt W c (on + k * 35) f)) (by kernel_rfl) ⟨D.out.hm, D.out.hq, D.out.hf⟩ ?_
        intro _
        replace D := Lib.hid D.out.drew
        refine wpAnyH_take (i := 1) (v := .slice (some ⟨b, off, none⟩) n cap) rfl (by kernel_rfl) (by kernel_rfl) (by kernel_rfl) (fun _ _ _ h => h) (Or.inl ⟨by rfl, (fun W _ => by go_simp)⟩) ⟨D.out.hm, D.out.hq, D.out.hf⟩ ?_
        simp only [List.getElem_toArray, List.getElem_cons_succ, List.getElem_cons_zero, Act.put, List.setIfInBounds_toArray, List.set_cons_zero, List.set_cons_succ]
        refine wpAnyH_take (i := 2) (v := .int .i64 (k : Int)) rfl (by kernel_rfl) (by kernel_rfl) (by kernel_rfl) (fun _ _ _ h => h) (Or.inl ⟨by rfl, (fun W _ => by go_simp)⟩) ⟨D.out.hm, D.out.hq, D.out.hf⟩ ?_
        simp only [List.getElem_toArray, List.getElem_cons_succ, List.getElem_cons_zero, Act.put, List.setIfInBounds_toArray, List.set_cons_zero, List.set_cons_succ]
        refine wpAnyH_take (i := 3) (v := .pointer (some ⟨b, off + k * 3, none⟩)) rfl (by kernel_rfl) (by kernel_rfl) (by kernel_rfl) (fun _ _ _ h => h) (Or.inl ⟨by rfl, (fun W _ => by go_simp)⟩) ⟨D.out.hm, D.out.hq, D.out.hf⟩ ?_
        simp only [List.getElem_toArray, List.getElem_cons_succ, List.getElem_cons_zero, Act.put, List.setIfInBounds_toArray, List.set_cons_zero, List.set_cons_succ]
        refine wpAnyH_take (i := 5) (v := .slice (some ⟨c, on, none⟩) n2 cap2) rfl (by kernel_rfl) (by kernel_rfl) (by kernel_rfl) (fun _ _ _ h => h) (Or.inl ⟨by rfl, (fun W _ => by go_simp)⟩) ⟨D.out.hm, D.out.hq, D.out.hf⟩ ?_
        simp only [List.getElem_toArray, List.getElem_cons_succ, List.getElem_cons_zero, Act.put, List.setIfInBounds_toArray, List.set_cons_zero, List.set_cons_succ]
        refine wpAnyH_take (i := 6) (v := .int .i64 (k : Int)) rfl (by kernel_rfl) (by kernel_rfl) (by kernel_rfl) (fun _ _ _ h => h) (Or.inl ⟨by rfl, (fun W _ => by go_simp)⟩) ⟨D.out.hm, D.out.hq, D.out.hf⟩ ?_
        simp only [List.getElem_toArray, List.getElem_cons_succ, List.getElem_cons_zero, Act.put, List.setIfInBounds_toArray, List.set_cons_zero, List.set_cons_succ]
        refine wpAnyH_take (i := 7) (v := .pointer (some ⟨c, on + k * 35, none⟩)) rfl (by kernel_rfl) (by kernel_rfl) (by kernel_rfl) (fun _ _ _ h => h) (Or.inl ⟨by rfl, (fun W _ => by go_simp)⟩) ⟨D.out.hm, D.out.hq, D.out.hf⟩ ?_
        simp only [List.getElem_toArray, List.getElem_cons_succ, List.getElem_cons_zero, Act.put, List.setIfInBounds_toArray, List.set_cons_zero, List.set_cons_succ]
        refine wpAnyH_take (i := 9) (v := .int .i64 quota) rfl (by kernel_rfl) (by kernel_rfl) (by kernel_rfl) (fun _ _ _ h => h) (Or.inl ⟨by rfl, (fun W _ => by go_simp)⟩) ⟨D.out.hm, D.out.hq, D.out.hf⟩ ?_
        simp only [List.getElem_toArray, List.getElem_cons_succ, List.getElem_cons_zero, Act.put, List.setIfInBounds_toArray, List.set_cons_zero, List.set_cons_succ]
        refine wpAnyH_take (i := 0) (v := .agg (x).cells) rfl (by kernel_rfl) (by kernel_rfl) (by kernel_rfl) (fun _ _ _ h => h) (yields_ld (by rfl) 27 (.tmp 4) rfl _ _ (fun W hW => ld27 hW.1 D.out.ok) rfl) ⟨D.out.hm, D.out.hq, D.out.hf⟩ ?_
        simp only [List.getElem_toArray, List.getElem_cons_succ, List.getElem_cons_zero, Act.put, List.setIfInBounds_toArray, List.set_cons_zero, List.set_cons_succ]
        refine wpAnyH_take (i := 4) (v := .agg (q).cells) rfl (by kernel_rfl) (by kernel_rfl) (by kernel_rfl) (fun _ _ _ h => h) (yields_ld (by rfl) 30 (.tmp 51) rfl _ _ (fun W hW => ldq hW.2.1) rfl) ⟨D.out.hm, D.out.hq, D.out.hf⟩ ?_
        simp only [List.getElem_toArray, List.getElem_cons_succ, List.getElem_cons_zero, Act.put, List.setIfInBounds_toArray, List.set_cons_zero, List.set_cons_succ]
        refine wpAnyH_take (i := 8) (v := .agg (f).cells) rfl (by kernel_rfl) (by kernel_rfl) (by kernel_rfl) (fun _ _ _ h => h) (yields_ld (by rfl) 32 (.tmp 55) rfl _ _ (fun W hW => ldf hW.2.2 OKF.out) rfl) ⟨D.out.hm, D.out.hq, D.out.hf⟩ ?_
        simp only [List.getElem_toArray, List.getElem_cons_succ, List.getElem_cons_zero, Act.put, List.setIfInBounds_toArray, List.set_cons_zero, List.set_cons_succ]
        refine wpAnyH_ready (rs := [10, 14, 15]) (by kernel_rfl) (by simp) ?_
        refine AllReadyH.cons rfl (fun K hK => ?_) ?_
        · go_simp
          refine (HA.out _ D.out.hb).mono ?_
          rintro e wk ⟨rfl, b1⟩
          replace D := Lib.hid (D.out.kept b1)
          clear b1
          refine hK.out _ _ ⟨D.out.hm, D.out.hq, D.out.hf⟩ (fun _ => ?_)
          clear hK K
          refine wpAnyH_take (i := 11) (v := .tuple #[.agg xm.cells, .agg (Rp.cells ⟨xe, xn, xg⟩)]) rfl (by kernel_rfl) (by kernel_rfl) (by kernel_rfl) (fun _ _ _ h => h) (Or.inl ⟨by rfl, (fun W _ => by go_simp)⟩) ⟨D.out.hm, D.out.hq, D.out.hf⟩ ?_
          simp only [List.getElem_toArray, List.getElem_cons_succ, List.getElem_cons_zero, Act.put, List.setIfInBounds_toArray, List.set_cons_zero, List.set_cons_succ]
          refine wpAnyH_take (i := 12) (v := .agg xm.cells) rfl (by kernel_rfl) (by kernel_rfl) (by kernel_rfl) (fun _ _ _ h => h) (Or.inl ⟨by rfl, (fun W _ => by go_simp)⟩) ⟨D.out.hm, D.out.hq, D.out.hf⟩ ?_
          simp only [List.getElem_toArray, List.getElem_cons_succ, List.getElem_cons_zero, Act.put, List.setIfInBounds_toArray, List.set_cons_zero, List.set_cons_succ]
          refine wpAnyH_take (i := 13) (v := .agg (Rp.cells ⟨xe, xn, xg⟩)) rfl (by kernel_rfl) (by kernel_rfl) (by kernel_rfl) (fun _ _ _ h => h) (Or.inl ⟨by rfl, (fun W _ => by go_simp)⟩) ⟨D.out.hm, D.out.hq, D.out.hf⟩ ?_
          simp only [List.getElem_toArray, List.getElem_cons_succ, List.getElem_cons_zero, Act.put, List.setIfInBounds_toArray, List.set_cons_zero, List.set_cons_succ]
          refine wpAnyH_ready (rs := [14, 15]) (by kernel_rfl) (by simp) ?_
          refine AllReadyH.cons rfl (fun K hK => ?_) ?_
          · go_simp
            have LA := Lib.hid (show w.heap.size < wk.heap.size from Nat.lt_of_lt_of_eq D.out.hm.size (by simp))
            have RA := Lib.hid (D.out.new 27 zeroT.cells (wk.heap.size) (by simp))
            replace D := Lib.hid (D.out.more (.cells zeroT.cells 27))
            refine hK.out _ _ ⟨D.out.hm, D.out.hq, D.out.hf⟩ (fun _ => ?_)
            clear hK K
            refine wpAnyH_ready (rs := [15]) (by kernel_rfl) (by simp) ?_
            refine AllReadyH.cons rfl (fun K hK => ?_) ?_
            · go_simp
              have LB := Lib.hid (show w.heap.size < wk.heap.size + 1 from Nat.lt_of_lt_of_eq D.out.hm.size (by simp))
              have NE := Lib.hid (Nat.ne_of_lt (show wk.heap.size < wk.heap.size + 1 from Nat.lt_of_lt_of_eq RA.out.size (by simp)))
              replace RA := Lib.hid (RA.out.more (.cells zeroR.cells 36))
              have RB := Lib.hid (D.out.new 36 zeroR.cells (wk.heap.size + 1) (by simp))
              replace D := Lib.hid (D.out.more (.cells zeroR.cells 36))
              refine hK.out _ _ ⟨D.out.hm, D.out.hq, D.out.hf⟩ (fun _ => ?_)
              clear hK K
              refine wpAnyH_ready (rs := [16]) (by kernel_rfl) (by simp) ?_
              refine AllReadyH.cons rfl (fun K hK => ?_) AllReadyH.nil
              refine step_row rfl 27 _ _ rfl _ _ rfl rfl 27 _ RA.out (size27 XO.out) (old27 zeroT_ok XO.out) (mt_all _) ?_
              intro w1 hs on1; replace RA := Lib.hid hs; replace RB := Lib.hid (Has.only RB.out on1 (by have := NE.out; omega)); replace D := Lib.hid (D.out.only on1 LA.out); clear hs on1
              refine hK.out _ _ ⟨D.out.hm, D.out.hq, D.out.hf⟩ (fun _ => ?_)
              clear hK K
              refine wpAnyH_ready (rs := [17]) (by kernel_rfl) (by simp) ?_
              refine AllReadyH.cons rfl (fun K hK => ?_) AllReadyH.nil
              refine step_row rfl 36 _ _ rfl _ _ rfl rfl 36 _ RB.out (size36 _) rfl (rp_all _) ?_
              intro w2 hs on2; replace RB := Lib.hid hs; replace RA := Lib.hid (Has.only RA.out on2 (by have := NE.out; omega)); replace D := Lib.hid (D.out.only on2 LB.out); clear hs on2
              refine hK.out _ _ ⟨D.out.hm, D.out.hq, D.out.hf⟩ (fun _ => ?_)
              clear hK K
              refine wpAnyH_done (by kernel_rfl) ?_ _
              go_wp2_with fail
              go_meet
              exact ⟨_, _, rfl, rfl, ⟨D.out, ⟨XO.out, RA.out, RB.out, by have := NE.out; omega⟩, LA.out⟩⟩
            exact AllReadyH.nil
          refine AllReadyH.cons rfl (fun K hK => ?_) ?_
          · go_simp
            have LB := Lib.hid (show w.heap.size < wk.heap.size from Nat.lt_of_lt_of_eq D.out.hm.size (by simp))
            have RB := Lib.hid (D.out.new 36 zeroR.cells (wk.heap.size) (by simp))
            replace D := Lib.hid (D.out.more (.cells zeroR.cells 36))
            refine hK.out _ _ ⟨D.out.hm, D.out.hq, D.out.hf⟩ (fun _ => ?_)
            clear hK K
            refine wpAnyH_ready (rs := [14]) (by kernel_rfl) (by simp) ?_
            refine AllReadyH.cons rfl (fun K hK => ?_) ?_
            · go_simp
              have LA := Lib.hid (show w.heap.size < wk.heap.size + 1 from Nat.lt_of_lt_of_eq D.out.hm.size (by simp))
              have NE := Lib.hid (Nat.ne_of_lt (show wk.heap.size < wk.heap.size + 1 from Nat.lt_of_lt_of_eq RB.out.size (by simp)))
              replace RB := Lib.hid (RB.out.more (.cells zeroT.cells 27))
              have RA := Lib.hid (D.out.new 27 zeroT.cells (wk.heap.size + 1) (by simp))
              replace D := Lib.hid (D.out.more (.cells zeroT.cells 27))
              refine hK.out _ _ ⟨D.out.hm, D.out.hq, D.out.hf⟩ (fun _ => ?_)
              clear hK K
              refine wpAnyH_ready (rs := [16]) (by kernel_rfl) (by simp) ?_
              refine AllReadyH.cons rfl (fun K hK => ?_) AllReadyH.nil
              refine step_row rfl 27 _ _ rfl _ _ rfl rfl 27 _ RA.out (size27 XO.out) (old27 zeroT_ok XO.out) (mt_all _) ?_
              intro w1 hs on1; replace RA := Lib.hid hs; replace RB := Lib.hid (Has.only RB.out on1 (by have := NE.out; omega)); replace D := Lib.hid (D.out.only on1 LA.out); clear hs on1
              refine hK.out _ _ ⟨D.out.hm, D.out.hq, D.out.hf⟩ (fun _ => ?_)
              clear hK K
              refine wpAnyH_ready (rs := [17]) (by kernel_rfl) (by simp) ?_
              refine AllReadyH.cons rfl (fun K hK => ?_) AllReadyH.nil
              refine step_row rfl 36 _ _ rfl _ _ rfl rfl 36 _ RB.out (size36 _) rfl (rp_all _) ?_
              intro w2 hs on2; replace RB := Lib.hid hs; replace RA := Lib.hid (Has.only RA.out on2 (by have := NE.out; omega)); replace D := Lib.hid (D.out.only on2 LB.out); clear hs on2
              refine hK.out _ _ ⟨D.out.hm, D.out.hq, D.out.hf⟩ (fun _ => ?_)
              clear hK K
              refine wpAnyH_done (by kernel_rfl) ?_ _
              go_wp2_with fail
              go_meet
              exact ⟨_, _, rfl, rfl, ⟨D.out, ⟨XO.out, RA.out, RB.out, by have := NE.out; omega⟩, LA.out⟩⟩
            exact AllReadyH.nil
          exact AllReadyH.nil
        refine AllReadyH.cons rfl (fun K hK => ?_) ?_
        · go_simp
          have LA := Lib.hid (show w.heap.size < wr.heap.size from Nat.lt_of_lt_of_eq D.out.hm.size (by simp))
          have RA := Lib.hid (D.out.new 27 zeroT.cells (wr.heap.size) (by simp))
          replace D := Lib.hid (D.out.more (.cells zeroT.cells 27))
          refine hK.out _ _ ⟨D.out.hm, D.out.hq, D.out.hf⟩ (fun _ => ?_)
          clear hK K
          refine wpAnyH_ready (rs := [10, 15]) (by kernel_rfl) (by simp) ?_
          refine AllReadyH.cons rfl (fun K hK => ?_) ?_
          · go_simp
            refine (HA.out _ D.out.hb).mono ?_
            rintro e wk ⟨rfl, b1⟩
            replace D := Lib.hid (D.out.kept b1)
            replace RA := Lib.hid (RA.out.kept b1)
            clear b1
            refine hK.out _ _ ⟨D.out.hm, D.out.hq, D.out.hf⟩ (fun _ => ?_)
            clear hK K
            refine wpAnyH_take (i := 11) (v := .tuple #[.agg xm.cells, .agg (Rp.cells ⟨xe, xn, xg⟩)]) rfl (by kernel_rfl) (by kernel_rfl) (by kernel_rfl) (fun _ _ _ h => h) (Or.inl ⟨by rfl, (fun W _ => by go_simp)⟩) ⟨D.out.hm, D.out.hq, D.out.hf⟩ ?_
            simp only [List.getElem_toArray, List.getElem_cons_succ, List.getElem_cons_zero, Act.put, List.setIfInBounds_toArray, List.set_cons_zero, List.set_cons_succ]
            refine wpAnyH_take (i := 12) (v := .agg xm.cells) rfl (by kernel_rfl) (by kernel_rfl) (by kernel_rfl) (fun _ _ _ h => h) (Or.inl ⟨by rfl, (fun W _ => by go_simp)⟩) ⟨D.out.hm, D.out.hq, D.out.hf⟩ ?_
            simp only [List.getElem_toArray, List.getElem_cons_succ, List.getElem_cons_zero, Act.put, List.setIfInBounds_toArray, List.set_cons_zero, List.set_cons_succ]
            refine wpAnyH_take (i := 13) (v := .agg (Rp.cells ⟨xe, xn, xg⟩)) rfl (by kernel_rfl) (by kernel_rfl) (by kernel_rfl) (fun _ _ _ h => h) (Or.inl ⟨by rfl, (fun W _ => by go_simp)⟩) ⟨D.out.hm, D.out.hq, D.out.hf⟩ ?_
            simp only [List.getElem_toArray, List.getElem_cons_succ, List.getElem_cons_zero, Act.put, List.setIfInBounds_toArray, List.set_cons_zero, List.set_cons_succ]
            refine wpAnyH_ready (rs := [15]) (by kernel_rfl) (by simp) ?_
            refine AllReadyH.cons rfl (fun K hK => ?_) ?_
            · go_simp
              have LB := Lib.hid (show w.heap.size < wk.heap.size from Nat.lt_of_lt_of_eq D.out.hm.size (by simp))
              have NE := Lib.hid (Nat.ne_of_lt (show wr.heap.size < wk.heap.size from Nat.lt_of_lt_of_eq RA.out.size (by simp)))
              replace RA := Lib.hid (RA.out.more (.cells zeroR.cells 36))
              have RB := Lib.hid (D.out.new 36 zeroR.cells (wk.heap.size) (by simp))
              replace D := Lib.hid (D.out.more (.cells zeroR.cells 36))
              refine hK.out _ _ ⟨D.out.hm, D.out.hq, D.out.hf⟩ (fun _ => ?_)
              clear hK K
              refine wpAnyH_ready (rs := [16]) (by kernel_rfl) (by simp) ?_
              refine AllReadyH.cons rfl (fun K hK => ?_) AllReadyH.nil
              refine step_row rfl 27 _ _ rfl _ _ rfl rfl 27 _ RA.out (size27 XO.out) (old27 zeroT_ok XO.out) (mt_all _) ?_
              intro w1 hs on1; replace RA := Lib.hid hs; replace RB := Lib.hid (Has.only RB.out on1 (by have := NE.out; omega)); replace D := Lib.hid (D.out.only on1 LA.out); clear hs on1
              refine hK.out _ _ ⟨D.out.hm, D.out.hq, D.out.hf⟩ (fun _ => ?_)
              clear hK K
              refine wpAnyH_ready (rs := [17]) (by kernel_rfl) (by simp) ?_
              refine AllReadyH.cons rfl (fun K hK => ?_) AllReadyH.nil
              refine step_row rfl 36 _ _ rfl _ _ rfl rfl 36 _ RB.out (size36 _) rfl (rp_all _) ?_
              intro w2 hs on2; replace RB := Lib.hid hs; replace RA := Lib.hid (Has.only RA.out on2 (by have := NE.out; omega)); replace D := Lib.hid (D.out.only on2 LB.out); clear hs on2
              refine hK.out _ _ ⟨D.out.hm, D.out.hq, D.out.hf⟩ (fun _ => ?_)
              clear hK K
              refine wpAnyH_done (by kernel_rfl) ?_ _
              go_wp2_with fail
              go_meet
              exact ⟨_, _, rfl, rfl, ⟨D.out, ⟨XO.out, RA.out, RB.out, by have := NE.out; omega⟩, LA.out⟩⟩
            exact AllReadyH.nil
          refine AllReadyH.cons rfl (fun K hK => ?_) ?_
          · go_simp
            have LB := Lib.hid (show w.heap.size < wr.heap.size + 1 from Nat.lt_of_lt_of_eq D.out.hm.size (by simp))
            have NE := Lib.hid (Nat.ne_of_lt (show wr.heap.size < wr.heap.size + 1 from Nat.lt_of_lt_of_eq RA.out.size (by simp)))
            replace RA := Lib.hid (RA.out.more (.cells zeroR.cells 36))
            have RB := Lib.hid (D.out.new 36 zeroR.cells (wr.heap.size + 1) (by simp))
            replace D := Lib.hid (D.out.more (.cells zeroR.cells 36))
            refine hK.out _ _ ⟨D.out.hm, D.out.hq, D.out.hf⟩ (fun _ => ?_)
            clear hK K
            refine wpAnyH_ready (rs := [10]) (by kernel_rfl) (by simp) ?_
            refine AllReadyH.cons rfl (fun K hK => ?_) ?_
            · go_simp
              refine (HA.out _ D.out.hb).mono ?_
              rintro e wk ⟨rfl, b1⟩
              replace D := Lib.hid (D.out.kept b1)
              replace RA := Lib.hid (RA.out.kept b1)
              replace RB := Lib.hid (RB.out.kept b1)
              clear b1
              refine hK.out _ _ ⟨D.out.hm, D.out.hq, D.out.hf⟩ (fun _ => ?_)
              clear hK K
              refine wpAnyH_take (i := 11) (v := .tuple #[.agg xm.cells, .agg (Rp.cells ⟨xe, xn, xg⟩)]) rfl (by kernel_rfl) (by kernel_rfl) (by kernel_rfl) (fun _ _ _ h => h) (Or.inl ⟨by rfl, (fun W _ => by go_simp)⟩) ⟨D.out.hm, D.out.hq, D.out.hf⟩ ?_
              simp only [List.getElem_toArray, List.getElem_cons_succ, List.getElem_cons_zero, Act.put, List.setIfInBounds_toArray, List.set_cons_zero, List.set_cons_succ]
              refine wpAnyH_take (i := 12) (v := .agg xm.cells) rfl (by kernel_rfl) (by kernel_rfl) (by kernel_rfl) (fun _ _ _ h => h) (Or.inl ⟨by rfl, (fun W _ => by go_simp)⟩) ⟨D.out.hm, D.out.hq, D.out.hf⟩ ?_
              simp only [List.getElem_toArray, List.getElem_cons_succ, List.getElem_cons_zero, Act.put, List.setIfInBounds_toArray, List.set_cons_zero, List.set_cons_succ]
              refine wpAnyH_take (i := 13) (v := .agg (Rp.cells ⟨xe, xn, xg⟩)) rfl (by kernel_rfl) (by kernel_rfl) (by kernel_rfl) (fun _ _ _ h => h) (Or.inl ⟨by rfl, (fun W _ => by go_simp)⟩) ⟨D.out.hm, D.out.hq, D.out.hf⟩ ?_
              simp only [List.getElem_toArray, List.getElem_cons_succ, List.getElem_cons_zero, Act.put, List.setIfInBounds_toArray, List.set_cons_zero, List.set_cons_succ]
              refine wpAnyH_ready (rs := [16]) (by kernel_rfl) (by simp) ?_
              refine AllReadyH.cons rfl (fun K hK => ?_) AllReadyH.nil
              refine step_row rfl 27 _ _ rfl _ _ rfl rfl 27 _ RA.out (size27 XO.out) (old27 zeroT_ok XO.out) (mt_all _) ?_
              intro w1 hs on1; replace RA := Lib.hid hs; replace RB := Lib.hid (Has.only RB.out on1 (by have := NE.out; omega)); replace D := Lib.hid (D.out.only on1 LA.out); clear hs on1
              refine hK.out _ _ ⟨D.out.hm, D.out.hq, D.out.hf⟩ (fun _ => ?_)
              clear hK K
              refine wpAnyH_ready (rs := [17]) (by kernel_rfl) (by simp) ?_
              refine AllReadyH.cons rfl (fun K hK => ?_) AllReadyH.nil
              refine step_row rfl 36 _ _ rfl _ _ rfl rfl 36 _ RB.out (size36 _) rfl (rp_all _) ?_
              intro w2 hs on2; replace RB := Lib.hid hs; replace RA := Lib.hid (Has.only RA.out on2 (by have := NE.out; omega)); replace D := Lib.hid (D.out.only on2 LB.out); clear hs on2
              refine hK.out _ _ ⟨D.out.hm, D.out.hq, D.out.hf⟩ (fun _ => ?_)
              clear hK K
              refine wpAnyH_done (by kernel_rfl) ?_ _
              go_wp2_with fail
              go_meet
              exact ⟨_, _, rfl, rfl, ⟨D.out, ⟨XO.out, RA.out, RB.out, by have := NE.out; omega⟩, LA.out⟩⟩
            exact AllReadyH.nil
          exact AllReadyH.nil
        refine AllReadyH.cons rfl (fun K hK => ?_) ?_
        · go_simp
          have LB := Lib.hid (show w.heap.size < wr.heap.size from Nat.lt_of_lt_of_eq D.out.hm.size (by simp))
          have RB := Lib.hid (D.out.new 36 zeroR.cells (wr.heap.size) (by simp))
          replace D := Lib.hid (D.out.more (.cells zeroR.cells 36))
          refine hK.out _ _ ⟨D.out.hm, D.out.hq, D.out.hf⟩ (fun _ => ?_)
          clear hK K
          refine wpAnyH_ready (rs := [10, 14]) (by kernel_rfl) (by simp) ?_
          refine AllReadyH.cons rfl (fun K hK => ?_) ?_
          · go_simp
            refine (HA.out _ D.out.hb).mono ?_
            rintro e wk ⟨rfl, b1⟩
            replace D := Lib.hid (D.out.kept b1)
            replace RB := Lib.hid (RB.out.kept b1)
            clear b1
            refine hK.out _ _ ⟨D.out.hm, D.out.hq, D.out.hf⟩ (fun _ => ?_)
            clear hK K
            refine wpAnyH_take (i := 11) (v := .tuple #[.agg xm.cells, .agg (Rp.cells ⟨xe, xn, xg⟩)]) rfl (by kernel_rfl) (by kernel_rfl) (by kernel_rfl) (fun _ _ _ h => h) (Or.inl ⟨by rfl, (fun W _ => by go_simp)⟩) ⟨D.out.hm, D.out.hq, D.out.hf⟩ ?_
            simp only [List.getElem_toArray, List.getElem_cons_succ, List.getElem_cons_zero, Act.put, List.setIfInBounds_toArray, List.set_cons_zero, List.set_cons_succ]
            refine wpAnyH_take (i := 12) (v := .agg xm.cells) rfl (by kernel_rfl) (by kernel_rfl) (by kernel_rfl) (fun _ _ _ h => h) (Or.inl ⟨by rfl, (fun W _ => by go_simp)⟩) ⟨D.out.hm, D.out.hq, D.out.hf⟩ ?_
            simp only [List.getElem_toArray, List.getElem_cons_succ, List.getElem_cons_zero, Act.put, List.setIfInBounds_toArray, List.set_cons_zero, List.set_cons_succ]
            refine wpAnyH_take (i := 13) (v := .agg (Rp.cells ⟨xe, xn, xg⟩)) rfl (by kernel_rfl) (by kernel_rfl) (by kernel_rfl) (fun _ _ _ h => h) (Or.inl ⟨by rfl, (fun W _ => by go_simp)⟩) ⟨D.out.hm, D.out.hq, D.out.hf⟩ ?_
            simp only [List.getElem_toArray, List.getElem_cons_succ, List.getElem_cons_zero, Act.put, List.setIfInBounds_toArray, List.set_cons_zero, List.set_cons_succ]
            refine wpAnyH_ready (rs := [14]) (by kernel_rfl) (by simp) ?_
            refine AllReadyH.cons rfl (fun K hK => ?_) ?_
            · go_simp
              have LA := Lib.hid (show w.heap.size < wk.heap.size from Nat.lt_of_lt_of_eq D.out.hm.size (by simp))
              have NE := Lib.hid (Nat.ne_of_lt (show wr.heap.size < wk.heap.size from Nat.lt_of_lt_of_eq RB.out.size (by simp)))
              replace RB := Lib.hid (RB.out.more (.cells zeroT.cells 27))
              have RA := Lib.hid (D.out.new 27 zeroT.cells (wk.heap.size) (by simp))
              replace D := Lib.hid (D.out.more (.cells zeroT.cells 27))
              refine hK.out _ _ ⟨D.out.hm, D.out.hq, D.out.hf⟩ (fun _ => ?_)
              clear hK K
              refine wpAnyH_ready (rs := [16]) (by kernel_rfl) (by simp) ?_
              refine AllReadyH.cons rfl (fun K hK => ?_) AllReadyH.nil
              refine step_row rfl 27 _ _ rfl _ _ rfl rfl 27 _ RA.out (size27 XO.out) (old27 zeroT_ok XO.out) (mt_all _) ?_
              intro w1 hs on1; replace RA := Lib.hid hs; replace RB := Lib.hid (Has.only RB.out on1 (by have := NE.out; omega)); replace D := Lib.hid (D.out.only on1 LA.out); clear hs on1
              refine hK.out _ _ ⟨D.out.hm, D.out.hq, D.out.hf⟩ (fun _ => ?_)
              clear hK K
              refine wpAnyH_ready (rs := [17]) (by kernel_rfl) (by simp) ?_
              refine AllReadyH.cons rfl (fun K hK => ?_) AllReadyH.nil
              refine step_row rfl 36 _ _ rfl _ _ rfl rfl 36 _ RB.out (size36 _) rfl (rp_all _) ?_
              intro w2 hs on2; replace RB := Lib.hid hs; replace RA := Lib.hid (Has.only RA.out on2 (by have := NE.out; omega)); replace D := Lib.hid (D.out.only on2 LB.out); clear hs on2
              refine hK.out _ _ ⟨D.out.hm, D.out.hq, D.out.hf⟩ (fun _ => ?_)
              clear hK K
              refine wpAnyH_done (by kernel_rfl) ?_ _
              go_wp2_with fail
              go_meet
              exact ⟨_, _, rfl, rfl, ⟨D.out, ⟨XO.out, RA.out, RB.out, by have := NE.out; omega⟩, LA.out⟩⟩
            exact AllReadyH.nil
          refine AllReadyH.cons rfl (fun K hK => ?_) ?_
          · go_simp
            have LA := Lib.hid (show w.heap.size < wr.heap.size + 1 from Nat.lt_of_lt_of_eq D.out.hm.size (by simp))
            have NE := Lib.hid (Nat.ne_of_lt (show wr.heap.size < wr.heap.size + 1 from Nat.lt_of_lt_of_eq RB.out.size (by simp)))
            replace RB := Lib.hid (RB.out.more (.cells zeroT.cells 27))
            have RA := Lib.hid (D.out.new 27 zeroT.cells (wr.heap.size + 1) (by simp))
            replace D := Lib.hid (D.out.more (.cells zeroT.cells 27))
            refine hK.out _ _ ⟨D.out.hm, D.out.hq, D.out.hf⟩ (fun _ => ?_)
            clear hK K
            refine wpAnyH_ready (rs := [10]) (by kernel_rfl) (by simp) ?_
            refine AllReadyH.cons rfl (fun K hK => ?_) ?_
            · go_simp
              refine (HA.out _ D.out.hb).mono ?_
              rintro e wk ⟨rfl, b1⟩
              replace D := Lib.hid (D.out.kept b1)
              replace RA := Lib.hid (RA.out.kept b1)
              replace RB := Lib.hid (RB.out.kept b1)
              clear b1
              refine hK.out _ _ ⟨D.out.hm, D.out.hq, D.out.hf⟩ (fun _ => ?_)
              clear hK K
              refine wpAnyH_take (i := 11) (v := .tuple #[.agg xm.cells, .agg (Rp.cells ⟨xe, xn, xg⟩)]) rfl (by kernel_rfl) (by kernel_rfl) (by kernel_rfl) (fun _ _ _ h => h) (Or.inl ⟨by rfl, (fun W _ => by go_simp)⟩) ⟨D.out.hm, D.out.hq, D.out.hf⟩ ?_
              simp only [List.getElem_toArray, List.getElem_cons_succ, List.getElem_cons_zero, Act.put, List.setIfInBounds_toArray, List.set_cons_zero, List.set_cons_succ]
              refine wpAnyH_take (i := 12) (v := .agg xm.cells) rfl (by kernel_rfl) (by kernel_rfl) (by kernel_rfl) (fun _ _ _ h => h) (Or.inl ⟨by rfl, (fun W _ => by go_simp)⟩) ⟨D.out.hm, D.out.hq, D.out.hf⟩ ?_
              simp only [List.getElem_toArray, List.getElem_cons_succ, List.getElem_cons_zero, Act.put, List.setIfInBounds_toArray, List.set_cons_zero, List.set_cons_succ]
              refine wpAnyH_take (i := 13) (v := .agg (Rp.cells ⟨xe, xn, xg⟩)) rfl (by kernel_rfl) (by kernel_rfl) (by kernel_rfl) (fun _ _ _ h => h) (Or.inl ⟨by rfl, (fun W _ => by go_simp)⟩) ⟨D.out.hm, D.out.hq, D.out.hf⟩ ?_
              simp only [List.getElem_toArray, List.getElem_cons_succ, List.getElem_cons_zero, Act.put, List.setIfInBounds_toArray, List.set_cons_zero, List.set_cons_succ]
              refine wpAnyH_ready (rs := [16]) (by kernel_rfl) (by simp) ?_
              refine AllReadyH.cons rfl (fun K hK => ?_) AllReadyH.nil
              refine step_row rfl 27 _ _ rfl _ _ rfl rfl 27 _ RA.out (size27 XO.out) (old27 zeroT_ok XO.out) (mt_all _) ?_
              intro w1 hs on1; replace RA := Lib.hid hs; replace RB := Lib.hid (Has.only RB.out on1 (by have := NE.out; omega)); replace D := Lib.hid (D.out.only on1 LA.out); clear hs on1
              refine hK.out _ _ ⟨D.out.hm, D.out.hq, D.out.hf⟩ (fun _ => ?_)
              clear hK K
              refine wpAnyH_ready (rs := [17]) (by kernel_rfl) (by simp) ?_
              refine AllReadyH.cons rfl (fun K hK => ?_) AllReadyH.nil
              refine step_row rfl 36 _ _ rfl _ _ rfl rfl 36 _ RB.out (size36 _) rfl (rp_all _) ?_
              intro w2 hs on2; replace RB := Lib.hid hs; replace RA := Lib.hid (Has.only RA.out on2 (by have := NE.out; omega)); replace D := Lib.hid (D.out.only on2 LB.out); clear hs on2
              refine hK.out _ _ ⟨D.out.hm, D.out.hq, D.out.hf⟩ (fun _ => ?_)
              clear hK K
              refine wpAnyH_done (by kernel_rfl) ?_ _
              go_wp2_with fail
              go_meet
              exact ⟨_, _, rfl, rfl, ⟨D.out, ⟨XO.out, RA.out, RB.out, by have := NE.out; omega⟩, LA.out⟩⟩
            exact AllReadyH.nil
          exact AllReadyH.nil
        exact AllReadyH.nil
      case rest =>
        obtain ⟨p, u, rfl, rfl, hA⟩ := hcut
        replace D := Lib.hid hA.d
        have R := Lib.hid hA.r
        have LU := Lib.hid hA.lp
        clear hA
        by_cases he : xe = 0
        · subst he
          rcases HQ0.out with ha | ⟨ha, hk6, hp3⟩
          · have da : (xm.act != x.act) = false := by simp [ha]
            clear ha HQ0 HE0
            go_wp2_with (first
              | (go_at_call 16; (with_reducible refine (HR2.out _).mono ?_); rintro e w8 ⟨rfl, b1⟩; replace D := Lib.hid (D.out.kept b1); replace R := Lib.hid (R.out.kept b1); clear b1 HR2)
              | (refine wpList_ld 34 _ rfl _ _ (ld34' (R.out.hr.at 0)) rfl rfl ?_)
              | (refine wpList_ld 3 _ rfl _ _ (ld3 (seen_of R.out.hm R.out.ok).least) rfl rfl ?_)
              | (refine wpList_ld 3 _ rfl _ _ (ld3 (seen_of D.out.hm D.out.ok).least) rfl rfl ?_)
              | (refine wpList_ld 3 _ rfl _ _ (ld3 (seen_of R.out.hm R.out.ok).act) rfl rfl ?_)
              | (refine wpList_ld 3 _ rfl _ _ (ld3 (seen_of D.out.hm D.out.ok).act) rfl rfl ?_)
              | (refine wpList_ld 27 _ rfl _ _ (ld27 R.out.hm R.out.ok) rfl rfl ?_)
              | (refine wpList_ld 27 _ rfl _ _ (ld27 D.out.hm D.out.ok) rfl rfl ?_)
              | (refine wpList_row rfl 27 _ _ rfl w.heap.size _ rfl rfl 27 _ D.out.hm (size27 XO.out) (old27 D.out.ok XO.out) (mt_all _) ?_; intro w9 hs on9; have C := Lib.hid (D.out.set XO.out HRI.out hs on9); clear hs on9))
            go_roundw
            case rel => exact ⟨k + 1, xm, by go_num, by omega, C.out⟩
            case measure => simp [intOf]; omega
          · have da : (xm.act != x.act) = true := by simp [ha]
            obtain ⟨kind, num, A, len, qcap, bs⟩ := q
            simp only at hk6
            subst hk6
            have dp : (x.phase != 3) = false := by simp [hp3]
            clear ha hp3 HQ0 HE0
            go_wp2_with (first
              | (go_at_call 16; (with_reducible refine (HR2.out _).mono ?_); rintro e w8 ⟨rfl, b1⟩; replace D := Lib.hid (D.out.kept b1); replace R := Lib.hid (R.out.kept b1); clear b1 HR2)
              | (refine wpList_ld 34 _ rfl _ _ (ld34' (R.out.hr.at 0)) rfl rfl ?_)
              | (refine wpList_ld 3 _ rfl _ _ (ld3 (seen_of R.out.hm R.out.ok).least) rfl rfl ?_)
              | (refine wpList_ld 3 _ rfl _ _ (ld3 (seen_of D.out.hm D.out.ok).least) rfl rfl ?_)
              | (refine wpList_ld 3 _ rfl _ _ (ld3 (seen_of R.out.hm R.out.ok).act) rfl rfl ?_)
              | (refine wpList_ld 3 _ rfl _ _ (ld3 (seen_of D.out.hm D.out.ok).act) rfl rfl ?_)
              | (refine wpList_ld 3 _ rfl _ _ (ld3 (seen_of D.out.hm D.out.ok).phase) rfl rfl ?_)
              | (refine wpList_ld 3 _ rfl _ _ (ld3 D.out.hq.kind) rfl rfl ?_)
              | (refine wpList_ld 27 _ rfl _ _ (ld27 R.out.hm R.out.ok) rfl rfl ?_)
              | (refine wpList_ld 27 _ rfl _ _ (ld27 D.out.hm D.out.ok) rfl rfl ?_)
              | (refine wpList_row rfl 27 _ _ rfl w.heap.size _ rfl rfl 27 _ D.out.hm (size27 XO.out) (old27 D.out.ok XO.out) (mt_all _) ?_; intro w9 hs on9; have C := Lib.hid (D.out.set XO.out HRI.out hs on9); clear hs on9))
            go_roundw
            case rel => exact ⟨k + 1, xm, by go_num, by omega, C.out⟩
            case measure => simp [intOf]; omega
        · have de : (xe != 0) = true := by simp [he]
          obtain rfl : xm = x := HE0.out he
          have da : (xm.act != xm.act) = false := by simp
          clear he HQ0 HE0
          go_wp2_with (first
            | (go_at_call 16; (with_reducible refine (HR2.out _).mono ?_); rintro e w8 ⟨rfl, b1⟩; replace D := Lib.hid (D.out.kept b1); replace R := Lib.hid (R.out.kept b1); clear b1 HR2)
            | (refine wpList_ld 34 _ rfl _ _ (ld34' (R.out.hr.at 0)) rfl rfl ?_)
            | (refine wpList_ld 3 _ rfl _ _ (ld3 (seen_of R.out.hm R.out.ok).least) rfl rfl ?_)
            | (refine wpList_ld 3 _ rfl _ _ (ld3 (seen_of D.out.hm D.out.ok).least) rfl rfl ?_)
            | (refine wpList_ld 3 _ rfl _ _ (ld3 (seen_of R.out.hm R.out.ok).act) rfl rfl ?_)
            | (refine wpList_ld 3 _ rfl _ _ (ld3 (seen_of D.out.hm D.out.ok).act) rfl rfl ?_)
            | (refine wpList_ld 27 _ rfl _ _ (ld27 R.out.hm R.out.ok) rfl rfl ?_)
            | (refine wpList_ld 27 _ rfl _ _ (ld27 D.out.hm D.out.ok) rfl rfl ?_)
            | (refine wpList_neT _ _ rfl xm xm rfl rfl XO.out rfl rfl ?_)
            | (refine wpList_row rfl 27 _ _ rfl w.heap.size _ rfl rfl 27 _ D.out.hm (size27 XO.out) (old27 D.out.ok XO.out) (mt_all _) ?_; intro w9 hs on9; have C := Lib.hid (D.out.set XO.out HRI.out hs on9); clear hs on9))
          go_roundw
          case rel => exact ⟨k + 1, xm, by go_num, by omega, C.out⟩
          case measure => simp [intOf]; omega
    · have dkn : decide ((k : Int) < (n : Int)) = false := decide_eq_false (by omega)
      go_wp2
      go_ret
      exact ⟨rfl, C.out.hb⟩
end Go.Proofs.YtcokpdhhpaahgaaDoor.updateRight
